/-
  The program's Dec returns the decimal numeral of n, for every int, where the library's table of powers of ten reads as it was laid. It makes new memory and turns none that was there.
-/
import Derived.Test.YtdefhiblbahhnaaDoorMathE
import Derived.Test.YtdefhiblbahhnaaDoorShelf
import Derived.Lib.AppendIntMem
import Derived.WalkKit
namespace Go.Proofs.YtdefhiblbahhnaaDoor
open Go.RowKit M
theorem iDec (n : Int) (w : World) (h0 : -9223372036854775808 ≤ n) (h1 : n ≤ 9223372036854775807) (ht : Lib.TabIs Tryd.prog w "internal/strconv.uint64pow10" .u64 Lib.pow10Tab) :
    Calls Tryd.prog 24 #[.int .i64 n] w fun e w' => e = .returned (.string (decs n)) ∧ Below w.heap.size w w' := by
  have H := fun W h => Lib.hid (Tryd.strconv_Itoa n h0 h1 W h)
  have HT := Lib.hid ht
  clear ht
  go_enter Tryd.func24, Tryd.ntmps24
  go_wp2_with (go_at_call 25; refine (H _ HT.out).out.mono ?_; rintro e w' ⟨rfl, k, os, rfl⟩)
  go_ret
  exact ⟨rfl, Lib.below_grow _ _ (Nat.le_refl _) _ _⟩
end Go.Proofs.YtdefhiblbahhnaaDoor
