/-
  The model's Dec returns the decimal numeral of n, for every int. It makes new memory and turns none that was there.
-/
import Derived.Test.YtdefhiblbahhnaaDoorMathE
import Derived.Test.YtdefhiblbahhnaaDoorOwn
namespace Go.Proofs.YtdefhiblbahhnaaDoor
open Go.RowKit M
set_option linter.unusedVariables false
theorem dec_byte (u : Nat) : UInt8.ofNat (48 + (u : Int) % 10).toNat = UInt8.ofNat (48 + u % 10) := by
  congr 1
theorem sDec_zero (w : World) : Calls Tryd.prog 16 #[.int .i64 0] w fun e w' => e = .returned (.string (decs 0)) ∧ Below w.heap.size w w' := by
  go_enter Tryd.func16, Tryd.ntmps16
  go_wp2
  go_ret
  exact ⟨ret_str (by decide +kernel), Below.refl _ _⟩
set_option maxRecDepth 100000 in
set_option maxHeartbeats 400000 in
theorem sDec_pos (m : Nat) (w : World) (h0 : 0 < m) (h1 : m ≤ 9223372036854775807) :
    Calls Tryd.prog 16 #[.int .i64 m] w fun e w' => e = .returned (.string (decs m)) ∧ Below w.heap.size w w' := by
  have hcv := conv_one
  have hz : ((m : Int) == 0) = false := by rw [beq_eq_false_iff_ne]; omega
  have hneg : decide ((m : Int) < 0) = false := by simp
  go_enter Tryd.func16, Tryd.ntmps16
  go_wp2
  go_loopw [0, 3, 5] (fun x o _ wr => ∃ (u : Nat) (acc : List UInt8), DecAt m u acc ∧ u ≤ m ∧ x = .int .i64 u ∧ o = .string (accs acc) ∧ Below w.heap.size w wr) (fun x _ _ _ => (intOf x).toNat)
  case atStart => exact ⟨m, [], DecAt.start h0, Nat.le_refl _, rfl, rfl, Below.refl _ _⟩
  case round =>
    obtain ⟨u, acc, hd, hu, rfl, rfl, hb⟩ := hrel
    have hl : (accs acc).size ≤ 19 := by rw [accs_size]; exact hd.len (by omega)
    by_cases hp : 0 < u
    · have hne : ((u : Int) != 0) = true := by rw [bne_iff_ne]; omega
      have hd2 := Lib.hid (hd.step hp)
      go_wp2
      go_roundw
      case rel => exact ⟨u / 10, _, hd2.out, by omega, by go_num, by rw [accs_cons, d48], hb.alloc hb.size _⟩
      case measure => simp [intOf]; omega
    · obtain rfl : u = 0 := by omega
      have HE := Lib.hid (decs_pos (n := (m : Int)) (by omega) acc (by rw [Int.toNat_natCast]; exact hd.stop))
      go_wp2
      go_ret
      exact ⟨ret_str HE.out, hb⟩
set_option maxRecDepth 100000 in
set_option maxHeartbeats 400000 in
theorem sDec_neg (m : Nat) (w : World) (h0 : 0 < m) (h1 : m ≤ 9223372036854775808) :
    Calls Tryd.prog 16 #[.int .i64 (-(m : Int))] w fun e w' => e = .returned (.string (decs (-(m : Int)))) ∧ Below w.heap.size w w' := by
  have hcv := conv_one
  have hz : ((-(m : Int)) == 0) = false := by rw [beq_eq_false_iff_ne]; omega
  have hneg : decide ((-(m : Int)) < 0) = true := by simp; omega
  have H1 := Lib.hid h1
  clear h1
  go_enter Tryd.func16, Tryd.ntmps16
  go_wp2
  go_loopw [0, 3, 5] (fun x o _ wr => ∃ (u : Nat) (acc : List UInt8), DecAt m u acc ∧ u ≤ m ∧ x = .int .i64 (-(u : Int)) ∧ o = .string (accs acc) ∧ Below w.heap.size w wr) (fun x _ _ _ => (-(intOf x)).toNat)
  case atStart => exact ⟨m, [], DecAt.start h0, Nat.le_refl _, rfl, rfl, Below.refl _ _⟩
  case round =>
    obtain ⟨u, acc, hd, hu, rfl, rfl, hb⟩ := hrel
    have hl : (accs acc).size ≤ 19 := by rw [accs_size]; exact hd.len H1.out
    have hu2 : -(u : Int) ≥ -9223372036854775808 := by have := H1.out; omega
    have e1 := mod10_neg u
    have e2 := div10_neg u
    by_cases hp : 0 < u
    · have hne : ((-(u : Int)) != 0) = true := by rw [bne_iff_ne]; omega
      have hd2 := Lib.hid (hd.step hp)
      by_cases hr : u % 10 = 0
      · have hr2 : decide (-((u % 10 : Nat) : Int) < 0) = false := by simp; omega
        have hd3 : Hid (DecAt m (u / 10) (48 :: acc)) := by have := hd.step hp; rw [hr] at this; exact this
        go_wp2
        go_roundw
        case rel => exact ⟨u / 10, _, hd3.out, by omega, by go_num, by rw [accs_cons], hb.alloc hb.size _⟩
        case measure => simp [intOf]; omega
      · have hr2 : decide (-((u % 10 : Nat) : Int) < 0) = true := by simp; omega
        go_wp2
        go_roundw
        case rel => exact ⟨u / 10, _, hd2.out, by omega, by go_num, by rw [accs_cons, d48], hb.alloc hb.size _⟩
        case measure => simp [intOf]; omega
    · obtain rfl : u = 0 := by omega
      have HE := Lib.hid (decs_neg (n := -(m : Int)) (by omega) acc (by rw [Int.natAbs_neg, Int.natAbs_natCast]; exact hd.stop))
      go_wp2
      go_ret
      exact ⟨ret_str (by rw [← HE.out, ← accs_cons]), hb⟩
theorem sDec (n : Int) (w : World) (h0 : -9223372036854775808 ≤ n) (h1 : n ≤ 9223372036854775807) :
    Calls Tryd.prog 16 #[.int .i64 n] w fun e w' => e = .returned (.string (decs n)) ∧ Below w.heap.size w w' := by
  rcases Int.lt_trichotomy n 0 with h | h | h
  · obtain ⟨m, rfl⟩ : ∃ m : Nat, n = -(m : Int) := ⟨n.natAbs, by omega⟩
    exact sDec_neg m w (by omega) (by omega)
  · subst h; exact sDec_zero w
  · obtain ⟨m, rfl⟩ := Int.eq_ofNat_of_zero_le (show 0 ≤ n by omega)
    exact sDec_pos m w (by omega) (by omega)
end Go.Proofs.YtdefhiblbahhnaaDoor
