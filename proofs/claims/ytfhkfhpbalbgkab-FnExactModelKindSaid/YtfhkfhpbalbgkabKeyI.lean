/-
  Chapter 4, the program's functions on a key: each answers what the plain words say, and leaves the world alone.
-/
import Derived.Test.YtfhkfhpbalbgkabZa
namespace Go.Proofs.Ytfhkfhpbalbgkab
open Go.RowKit M
set_option linter.unusedVariables false
theorem xor_u32 {a b : Nat} (ha : a < 4294967296) (hb : b < 4294967296) : bits .xor .u32 (a : Int) (b : Int) = ((a ^^^ b : Nat) : Int) := by
  have hlt : a ^^^ b < 2 ^ 32 := Nat.xor_lt_two_pow (by omega) (by omega)
  have ka : (BitVec.ofInt 32 (a : Int)).toNat = a := by rw [BitVec.toNat_ofInt]; omega
  have kb : (BitVec.ofInt 32 (b : Int)).toNat = b := by rw [BitVec.toNat_ofInt]; omega
  show IntKind.u32.wrap ((BitVec.ofInt 32 (a : Int) ^^^ BitVec.ofInt 32 (b : Int)).toNat : Nat) = _
  rw [BitVec.toNat_xor, ka, kb, IntKind.wrap_u32]
  omega
theorem same_gives {f : FuncId} {args : Array Value} {w : World} {v : Value} (h : Calls Try.prog f args w (Same w v)) : Calls Try.prog f args w (Gives v w) := h.mono fun _ _ k => gives_same k
end Go.Proofs.Ytfhkfhpbalbgkab
