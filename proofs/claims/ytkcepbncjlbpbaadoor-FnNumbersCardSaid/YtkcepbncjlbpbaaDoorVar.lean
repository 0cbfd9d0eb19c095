/-
  The model's Var and the program's: each returns the varint of n where n is from 0 to MaxVar, else the empty string. Each makes new memory and turns none that was there.
-/
import Derived.Test.YtkcepbncjlbpbaaDoorIn
import Derived.Test.YtkcepbncjlbpbaaDoorOwn
namespace Go.Proofs.YtkcepbncjlbpbaaDoor
open Go.RowKit M
set_option linter.unusedVariables false
theorem sVar_bad (n : Int) (w : World) (h : n < 0 ∨ 562949953421311 < n) :
    Calls Tryd.prog 26 #[.int .i64 n] w fun e w' => e = .returned (.string ⟨#[]⟩) ∧ w = w' := by
  go_enter Tryd.func26, Tryd.ntmps26
  go_wp2_with (go_at_call 35; refine (l1In_no _ _ _ _ (by omega)).mono ?_; rintro e w' ⟨rfl, rfl⟩)
  go_ret
  exact ⟨rfl, rfl⟩
theorem iVar_bad (n : Int) (w : World) (h : n < 0 ∨ 562949953421311 < n) :
    Calls Tryd.prog 9 #[.int .i64 n] w fun e w' => e = .returned (.string ⟨#[]⟩) ∧ w = w' := by
  by_cases h1 : n < 0
  · go_enter Tryd.func9, Tryd.ntmps9
    go_wp2
    go_ret
    exact ⟨rfl, rfl⟩
  · have h2 : 562949953421311 < n := by omega
    go_enter Tryd.func9, Tryd.ntmps9
    go_wp2
    go_ret
    exact ⟨rfl, rfl⟩
theorem var_byte (m : Nat) : Value.int .u8 (128 + (m : Int) % 128) = b2v (UInt8.ofNat (128 + m % 128)) := by
  unfold b2v; congr 1; simp; omega
theorem var_last (m : Nat) (h : m < 128) : Value.int .u8 (m : Int) = b2v (UInt8.ofNat m) := by
  unfold b2v; congr 1; simp; omega
set_option maxRecDepth 100000 in
set_option maxHeartbeats 400000 in
theorem sVar_good (n : Nat) (w : World) (h : n ≤ 562949953421311) :
    Calls Tryd.prog 26 #[.int .i64 n] w fun e w' => e = .returned (.string (vbs n)) ∧ Below w.heap.size w w' := by
  go_enter Tryd.func26, Tryd.ntmps26
  go_wp2_with (go_at_call 35; refine (l1In_yes _ _ _ _ (by omega) (by omega)).mono ?_; rintro e w' ⟨rfl, rfl⟩)
  have hn : n ≤ 9223372036854775807 := by omega
  have HH := Lib.hid h
  clear h
  go_loopw [0, 3] (fun x v wr => ∃ (f m : Nat) (acc : List UInt8), VarAt n f m acc ∧ x = .int .i64 m ∧ m ≤ n ∧ OwnB wr w.heap.size v acc ∧ Below w.heap.size w wr) (fun x _ _ => (intOf x).toNat)
  case atStart => exact ⟨6, n, [], VarAt.start n HH.out, rfl, Nat.le_refl _, OwnB.empty w _ (Nat.le_refl _), (Below.refl _ _).alloc (Nat.le_refl _) _⟩
  case round =>
    obtain ⟨f, m, acc, hv, rfl, hmn, ho, hb⟩ := hrel
    by_cases hlt : m < 128
    · go_wp2_with (at_builtin; refine wpB_append _ rfl _ _ rfl w.heap.size _ acc (ho.alloc _) rfl ⟨wr.heap.size, 0, none⟩ 1 1 [UInt8.ofNat m] rfl rfl ?c1 ?c2 ?c3 ?_; rotate_left 3; intro v' w1 hown' hgrow'; have hcv := conv_own hown'; have HO' := Lib.hid hown'; have HG := Lib.hid hgrow'; clear hown' hgrow')
      · go_ret
        exact ⟨ret_str (by rw [hv.stop hlt]; rfl), (hb.alloc hb.size _).grown HG.out (by simp [go_sem]; have := hb.size; omega) ho.base_le⟩
      case c1 => rw [var_last m hlt]; exact new1 wr _
      case c2 => have := hv.len; omega
      case c3 => have := hb.size; simp [go_sem]; omega
    · obtain ⟨g, rfl, hv'⟩ := hv.step hlt
      go_wp2_with (at_builtin; refine wpB_append _ rfl _ _ rfl w.heap.size _ acc (ho.alloc _) rfl ⟨wr.heap.size, 0, none⟩ 1 1 [UInt8.ofNat (128 + m % 128)] rfl rfl ?c1 ?c2 ?c3 ?_; rotate_left 3; intro v' w1 hown' hgrow'; have HO' := Lib.hid hown'; have HG := Lib.hid hgrow'; clear hown' hgrow')
      · go_roundw
        case rel => exact ⟨g, m / 128, _, hv', by go_num, by omega, HO'.out, (hb.alloc hb.size _).grown HG.out (by simp [go_sem]; have := hb.size; omega) ho.base_le⟩
        case measure => simp [intOf]; omega
      case c1 => rw [var_byte m]; exact new1 wr _
      case c2 => have := hv.len; omega
      case c3 => have := hb.size; simp [go_sem]; omega
set_option maxRecDepth 100000 in
set_option maxHeartbeats 400000 in
theorem iVar_good (n : Nat) (w : World) (h : n ≤ 562949953421311) :
    Calls Tryd.prog 9 #[.int .i64 n] w fun e w' => e = .returned (.string (vbs n)) ∧ Below w.heap.size w w' := by
  obtain ⟨i0, hi, hz0, hz1, hz2⟩ := info_parts info_u8
  go_enter Tryd.func9, Tryd.ntmps9
  go_wp2_with (refine wpList_make_own _ rfl _ _ 22 rfl w.heap.size 5 i0 (.int .u8 0) 1 Tryd.underlying22 hi hz0 hz1 .i64 .i64 _ 7 rfl rfl rfl ?m1 ?m2 ?m3 ?_; rotate_left 3; intro w1 hown hg; have HO := Lib.hid hown; have HG := Lib.hid hg; clear hown hg)
  case m2 => unfold maxLen; omega
  have hn : n ≤ 9223372036854775807 := by omega
  have HH := Lib.hid h
  clear h hi hz0 hz1 hz2
  have hown0 : OwnB w1 w.heap.size (.slice (some ⟨w.heap.size, 0, none⟩) 0 7) [] := HO.out
  have HO0 := Lib.hid hown0
  have hbel : Below w.heap.size w w1 := (Below.refl _ _).grown HG.out (Nat.le_refl _) (by intro _ h; cases h)
  clear hown0
  go_loopw [0, 3] (fun x v wr => ∃ (f m : Nat) (acc : List UInt8), VarAt n f m acc ∧ x = .int .i64 m ∧ m ≤ n ∧ OwnB wr w.heap.size v acc ∧ Below w.heap.size w wr) (fun x _ _ => (intOf x).toNat)
  case atStart => exact ⟨6, n, [], VarAt.start n HH.out, rfl, Nat.le_refl _, HO0.out, hbel⟩
  case round =>
    obtain ⟨f, m, acc, hv, rfl, hmn, ho, hb⟩ := hrel
    by_cases hlt : m < 128
    · go_wp2_with (at_builtin; refine wpB_append _ rfl _ _ rfl w.heap.size _ acc (ho.alloc _) rfl ⟨wr.heap.size, 0, none⟩ 1 1 [UInt8.ofNat m] rfl rfl ?c1 ?c2 ?c3 ?_; rotate_left 3; intro v' w1 hown' hgrow'; have hcv := conv_own hown'; have HO' := Lib.hid hown'; have HG := Lib.hid hgrow'; clear hown' hgrow')
      · go_ret
        exact ⟨ret_str (by rw [hv.stop hlt]; rfl), (hb.alloc hb.size _).grown HG.out (by simp [go_sem]; have := hb.size; omega) ho.base_le⟩
      case c1 => rw [var_last m hlt]; exact new1 wr _
      case c2 => have := hv.len; omega
      case c3 => have := hb.size; simp [go_sem]; omega
    · obtain ⟨g, rfl, hv'⟩ := hv.step hlt
      have ha := i64_and127 (m : Int)
      have ho2 := i64_or128 ((m : Int) % 128) (by omega) (by omega)
      go_wp2_with (at_builtin; refine wpB_append _ rfl _ _ rfl w.heap.size _ acc (ho.alloc _) rfl ⟨wr.heap.size, 0, none⟩ 1 1 [UInt8.ofNat (128 + m % 128)] rfl rfl ?c1 ?c2 ?c3 ?_; rotate_left 3; intro v' w1 hown' hgrow'; have HO' := Lib.hid hown'; have HG := Lib.hid hgrow'; clear hown' hgrow')
      · go_roundw
        case rel => exact ⟨g, m / 128, _, hv', by go_num, by omega, HO'.out, (hb.alloc hb.size _).grown HG.out (by simp [go_sem]; have := hb.size; omega) ho.base_le⟩
        case measure => simp [intOf]; omega
      case c1 => rw [var_byte m]; exact new1 wr _
      case c2 => have := hv.len; omega
      case c3 => have := hb.size; simp [go_sem]; omega
end Go.Proofs.YtkcepbncjlbpbaaDoor
