/-
  Plain mathematics of hexadecimal digits, with no program in sight.
-/
import Derived.Test.YtkcepbncjlbpbaaDoorMathB
namespace Go.Proofs.YtkcepbncjlbpbaaDoor.M
open Go.RowKit
/-- The lowercase hexadecimal digit of k. -/
def hexd (k : Nat) : UInt8 := if k < 10 then UInt8.ofNat (48 + k) else UInt8.ofNat (87 + k)
theorem hex_get (k : Nat) (h : k < 16) (hp : k < (ByteArray.mk #[48, 49, 50, 51, 52, 53, 54, 55, 56, 57, 97, 98, 99, 100, 101, 102]).size) :
    (ByteArray.mk #[48, 49, 50, 51, 52, 53, 54, 55, 56, 57, 97, 98, 99, 100, 101, 102])[k]'hp = hexd k := by
  have : ∀ k : Nat, ∀ h : k < 16, (ByteArray.mk #[48, 49, 50, 51, 52, 53, 54, 55, 56, 57, 97, 98, 99, 100, 101, 102])[k]'h = hexd k := by decide
  exact this k h
def hexl : List UInt8 → List UInt8
  | [] => []
  | c :: l => hexd (c.toNat / 16) :: hexd (c.toNat % 16) :: hexl l
theorem hexl_append (l m : List UInt8) : hexl (l ++ m) = hexl l ++ hexl m := by
  induction l with
  | nil => rfl
  | cons c l ih => simp [hexl, ih]
theorem hexl_length (l : List UInt8) : (hexl l).length = 2 * l.length := by
  induction l with
  | nil => rfl
  | cons c l ih => simp only [hexl, List.length_cons, ih]; omega
theorem hexl_take (s : ByteArray) (k : Nat) (h : k < s.size) : hexl (s.data.toList.take (k + 1)) = hexl (s.data.toList.take k) ++ [hexd (s[k].toNat / 16), hexd (s[k].toNat % 16)] := by
  rw [take_snoc s k h, hexl_append]; rfl
theorem hexl_take' (s : ByteArray) (k : Nat) (h : k < s.size) : hexl (s.data.toList.take (k + 1)) = hexl (s.data.toList.take k) ++ [hexd ((s[k].toNat : Int) / 16).toNat, hexd ((s[k].toNat : Int) % 16).toNat] := by
  rw [hexl_take s k h]
  have a : ((s[k].toNat : Int) / 16).toNat = s[k].toNat / 16 := by omega
  have b : ((s[k].toNat : Int) % 16).toNat = s[k].toNat % 16 := by omega
  rw [a, b]
def hexs (s : ByteArray) : ByteArray := ⟨(hexl s.data.toList).toArray⟩
end Go.Proofs.YtkcepbncjlbpbaaDoor.M
