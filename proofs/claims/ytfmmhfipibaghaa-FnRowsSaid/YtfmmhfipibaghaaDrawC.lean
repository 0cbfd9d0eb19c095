/-
  A cursor made new over a code: its first state follows from the code alone; nothing that was there is turned.
-/
import Derived.Test.YtfmmhfipibaghaaDrawB
import Derived.ChangeOld
namespace Go.Proofs.Ytfmmhfipibaghaa
open Go.RowKit M
set_option linter.unusedVariables false
def newHto (K : Code) : Nat → Int
  | 0 => 10101 + (K.len : Int)
  | j + 1 => (newHto K j * 131 + K.zs.getD j 0 + 7) % 1073741824
def newS (K : Code) : St := (0, newHto K (min K.len 4000))
theorem newHto_bd (K : Code) (h : K.len ≤ 1048576) (j : Nat) : 0 ≤ newHto K j ∧ newHto K j < 1073741824 := by
  cases j with
  | zero => simp only [newHto]; omega
  | succ j => simp only [newHto]; omega
theorem i64_and30 (n : Int) : bits .and .i64 n 1073741823 = n % 1073741824 := by
  have h30 : (BitVec.ofInt 64 1073741823).toNat = 2 ^ 30 - 1 := by decide
  have key : (BitVec.ofInt 64 n &&& BitVec.ofInt 64 1073741823).toNat = (n % ((2 ^ 64 : Nat) : Int)).toNat % 2 ^ 30 := by
    rw [BitVec.toNat_and, BitVec.toNat_ofInt, h30, Nat.and_two_pow_sub_one_eq_mod]
  show IntKind.i64.wrap ((BitVec.ofInt 64 n &&& BitVec.ofInt 64 1073741823).toNat : Nat) = n % 1073741824
  rw [key, IntKind.wrap_i64]
  omega
def NewPost (w : World) (K : Code) (e : Ending) (w' : World) : Prop := ∃ g, e = .returned (.pointer (some ⟨g, 0, none⟩)) ∧ w.heap.size ≤ g ∧ Cur w' g K (newS K) ∧ Below w.heap.size w w'
theorem new_done (w : World) (K : Code) (hk : CodeIn w K) (j : Nat) (hj : j = min K.len 4000) :
    NewPost w K (.returned (.pointer (some ⟨w.heap.size, 0, none⟩))) (w.alloc (.cells #[.slice K.A K.len K.cap, .int .i64 0, .int .i64 (newHto K j)] 58)) := by
  subst hj
  refine ⟨w.heap.size, rfl, Nat.le_refl _, ⟨heap_alloc_new w _, ⟨hk.1, fun hp => ?_⟩, Nat.zero_le _⟩, (Below.refl _ _).alloc (Nat.le_refl _) _⟩
  obtain ⟨b, off, e, hb, hc⟩ := hk.2 hp
  exact ⟨b, off, e, by omega, fun j hj => ⟨(((Below.refl w.heap.size w).alloc (Nat.le_refl _) _).cell (p := ⟨b, off + j, none⟩) hb).trans (hc j hj).1, (hc j hj).2⟩⟩
set_option maxRecDepth 100000 in
theorem new_any (w : World) (K : Code) (hk : CodeIn w K) (hl : K.len ≤ 1048576) :
    Calls Try.prog 31 #[.slice K.A K.len K.cap] w (NewPost w K) := by
  have HK := Lib.hid hk
  clear hk
  go_enter Try.func31, Try.ntmps31
  go_wp2
  go_loop [3, 4] (fun h i => ∃ j : Nat, j ≤ K.len ∧ j ≤ 4000 ∧ i = .int .i64 j ∧ h = .int .i64 (newHto K j)) (fun _ i => 4000 - (intOf i).toNat)
  case atStart => exact ⟨0, Nat.zero_le _, Nat.zero_le _, rfl, rfl⟩
  case round =>
    obtain ⟨j, hj, hj4, rfl, rfl⟩ := hrel
    by_cases hlt : j < K.len
    · have hd : decide (j < K.len) = true := by simp; omega
      by_cases h4 : j < 4000
      · have hd4 : decide ((j : Int) < 4000) = true := by simp; omega
        obtain ⟨b, off, hA, hb, hcell⟩ := HK.out.2 (by omega)
        obtain ⟨hz, hz0, hz1⟩ := hcell j hlt
        obtain ⟨n0, n1⟩ := newHto_bd K hl j
        have HN := Lib.hid (show newHto K (j + 1) = (newHto K j * 131 + K.zs.getD j 0 + 7) % 1073741824 from rfl)
        have ha := i64_and30 (newHto K j * 131 + K.zs.getD j 0 + 7)
        rw [hA]
        generalize K.zs.getD j 0 = z at *
        clear hcell
        go_wp2
        go_round
        case rel => exact ⟨j + 1, by omega, by omega, by go_num, by rw [HN.out]⟩
        case measure => simp [intOf]; omega
      · have hd4 : decide ((j : Int) < 4000) = false := by simp; omega
        have HE := Lib.hid (show j = min K.len 4000 by omega)
        go_wp2
        go_ret
        exact new_done w K HK.out j HE.out
    · have hd : decide (j < K.len) = false := by simp; omega
      have HE := Lib.hid (show j = min K.len 4000 by omega)
      go_wp2
      go_ret
      exact new_done w K HK.out j HE.out
end Go.Proofs.Ytfmmhfipibaghaa
