/-
  The program's Hex: two lowercase hexadecimal digits for each byte, the high half first. It turns nothing that was there.
-/
import Derived.Test.YtkcepbncjlbpbaaDoorIn
import Derived.Test.YtkcepbncjlbpbaaDoorOwn
import Derived.Test.YtkcepbncjlbpbaaDoorMathC
import Derived.Deep.RegionLaw
import Derived.Deep.DrawnRows
namespace Go.Proofs.YtkcepbncjlbpbaaDoor
open Go.RowKit M
set_option linter.unusedVariables false
attribute [local go_sem ↓] Go.wp_at_zero Go.wp_at_succ
theorem ret_val {a b : Value} (h : a = b) : Ending.returned a = .returned b := by rw [h]
theorem len_hex (s : ByteArray) (j : Nat) (hj : j ≤ s.size) (hs : s.size ≤ 1099511627776) : (hexl (s.data.toList.take j)).length + 2 ≤ 140737488355328 := by
  rw [hexl_length, List.length_take, len_data]; omega
set_option maxRecDepth 100000 in
set_option maxHeartbeats 400000 in
theorem iHx (s : ByteArray) (w : World) (hs : s.size ≤ 1099511627776) :
    Calls Tryd.prog 16 #[.string s] w fun e w' => e = .returned (.string (hexs s)) ∧ Below w.heap.size w w' := by
  obtain ⟨i0, hi, hz0, hz1, hz2⟩ := info_parts info_u8
  have hs2 : s.size ≤ 4611686018427387903 := by omega
  go_enter Tryd.func16, Tryd.ntmps16
  go_wp2_with (refine wpList_make_own _ rfl _ _ 22 rfl w.heap.size 5 i0 (.int .u8 0) 1 Tryd.underlying22 hi hz0 hz1 .i64 .i64 _ (2 * s.size) rfl rfl ?m0 ?m1 ?m2 ?m3 ?_; rotate_left 4; intro w1 hown hg; have HO := Lib.hid hown; have HG := Lib.hid hg; clear hown hg)
  case m0 => omega
  case m1 => rw [hz2]; omega
  case m2 => unfold maxLen; omega
  case m3 => exact Nat.le_refl _
  have HS := Lib.hid hs
  clear hs hi hz0 hz1 hz2
  have hown0 : OwnB w1 w.heap.size (.slice (some ⟨w.heap.size, 0, none⟩) 0 (2 * s.size)) [] := HO.out
  have HO0 := Lib.hid hown0
  have hbel : Below w.heap.size w w1 := (Below.refl _ _).grown HG.out (Nat.le_refl _) (by intro _ h; cases h)
  clear hown0
  go_loopw [3, 4, 11] (fun v _ i wr => ∃ j : Nat, j ≤ s.size ∧ i = .int .i64 j ∧ OwnB wr w.heap.size v (hexl (s.data.toList.take j)) ∧ Below w.heap.size w wr) (fun _ _ i _ => s.size - (intOf i).toNat)
  case atStart => exact ⟨0, Nat.zero_le _, rfl, HO0.out, hbel⟩
  case round =>
    obtain ⟨j, hj, rfl, ho, hb⟩ := hrel
    by_cases hlt : j < s.size
    · have hc : s[j].toNat < 256 := s[j].toNat_lt
      have q0 : (0 : Int) ≤ (s[j].toNat : Int) / 16 := by omega
      have q1 : (s[j].toNat : Int) / 16 < 16 := by omega
      have r0 : (0 : Int) ≤ (s[j].toNat : Int) % 16 := by omega
      have r1 : (s[j].toNat : Int) % 16 < 16 := by omega
      have hl := Lib.hid (len_hex s j hj HS.out)
      have hz := hb.size
      have hq : ((s[j].toNat : Int) / 16).toNat < 16 := by omega
      have hr : ((s[j].toNat : Int) % 16).toNat < 16 := by omega
      have e5 := u8_and15 (s[j].toNat : Int) (by omega) (by omega)
      go_wp2
      go_region_law (refine stepB_append rfl _ _ rfl w.heap.size _ (hexl (s.data.toList.take j)) (ho.drew.alloc _) rfl ⟨wr.heap.size, 0, none⟩ 2 2 [_, _] rfl rfl (new2 wr.drew _ _) hl.out (le_alloc hz _) ?_; intro v' w1 hown' hgrow')
      all_goals
        rw [hex_get _ hq, hex_get _ hr] at hown'
        have HO := Lib.hid hown'
        have HG := Lib.hid hgrow'
        clear hown' hgrow'
        go_wp2
        go_roundw
        case rel => exact ⟨j + 1, by omega, by go_num, by rw [hexl_take' s j hlt]; exact HO.out, ((hb.alloc hz _).drew).grown HG.out (le_alloc hz _) ho.base_le⟩
        case measure => simp [intOf]; omega
    · obtain rfl : j = s.size := by omega
      have hcv := conv_own ho
      have HO := Lib.hid ho
      clear ho
      go_wp2
      go_ret
      exact ⟨ret_str (by rw [take_all]; rfl), hb⟩
end Go.Proofs.YtkcepbncjlbpbaaDoor
