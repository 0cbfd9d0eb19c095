/-
  Chapter 4, the model's UnpackKey: it answers what the plain words say and turns nothing that was there.
-/
import Derived.Test.YtmnkjjgfebfgmaaDoorKeyS
import Derived.Test.YtmnkjjgfebfgmaaDoorOwn
namespace Go.Proofs.YtmnkjjgfebfgmaaDoor
open Go.RowKit M
set_option linter.unusedVariables false
theorem OwnB.shape {w : World} {base : Nat} {v : Value} {l : List UInt8} (h : OwnB w base v l) (hl : l ≠ []) : ∃ g cap, v = .slice (some ⟨g, 0, none⟩) l.length cap := by
  rcases h.2 with ⟨_, h0⟩ | ⟨g, cap, cur, rfl, _⟩
  · exact absurd (List.eq_nil_of_length_eq_zero h0) hl
  · exact ⟨g, cap, rfl⟩
/-- A row of one byte that was just built. -/
theorem OwnB.one (w : World) (base : Nat) (hb : base ≤ w.heap.size) (c : UInt8) : OwnB (w.alloc (.cells #[b2v c] 5)) base (.slice (some ⟨w.heap.size, 0, none⟩) 1 1) [c] :=
  World.ownsRow_lit w #[b2v c] 1 hb (by unfold maxLen; omega) rfl
set_option maxRecDepth 100000 in
set_option maxHeartbeats 400000 in
theorem sUnpack_any (w : World) (n : Int) : Calls Tryd.prog 52 #[.int .i64 n] w (Gives (unT (unV n)) w) := by
  by_cases hn : 1 ≤ n ∧ n ≤ 4294967295
  · have E := Lib.hid (show unV n = if keyOkV (unb n.toNat) = true then some (unb n.toNat) else none by unfold unV; rw [if_pos hn])
    obtain ⟨m, rfl⟩ := Int.eq_ofNat_of_zero_le (show 0 ≤ n by omega)
    rw [Int.toNat_natCast] at E
    obtain ⟨n0, n1⟩ := hn
    have hm : m ≤ 4294967295 := by omega
    go_enter Tryd.func52, Tryd.ntmps52
    go_wp2_with (go_at_call 38; refine (l1In_yes _ _ _ _ (by omega) (by omega)).mono ?_; rintro e w' ⟨rfl, rfl⟩)
    go_loopw [0, 4] (fun x v wr => ∃ (k g cap : Nat), k ≤ nbV m ∧ x = .int .i64 (dv m k : Nat) ∧ v = .slice (some ⟨g, 0, none⟩) k cap ∧ OwnB wr w.heap.size v (fx m k) ∧ Below w.heap.size w wr) (fun x _ _ => (intOf x).toNat)
    case atStart => exact ⟨0, _, _, Nat.zero_le _, by rw [dv_zero], rfl, OwnB.empty w _ (Nat.le_refl _), (Below.refl _ _).alloc (Nat.le_refl _) _⟩
    case round =>
      obtain ⟨k, g, cap, hk, rfl, rfl, ho, hb⟩ := hrel
      have hk4 : k ≤ 4 := Nat.le_trans hk (nbV_le m)
      have hle := dv_le m k
      by_cases hp : k < nbV m
      · have hpos := (nbV_iff hm hk4).2 hp
        have hv : Value.int .u8 (((dv m k : Nat) : Int) % 256) = b2v (UInt8.ofNat (dv m k)) := by unfold b2v; congr 1
        have HO1 : Hid (OwnB (wr.alloc (.cells #[.int .u8 (((dv m k : Nat) : Int) % 256)] 5)) w.heap.size (.slice (some ⟨wr.heap.size, 0, none⟩) 1 1) [UInt8.ofNat (dv m k)]) := Lib.hid (by rw [hv]; exact OwnB.one wr _ hb.size _)
        have HC1 : Hid (∀ (j : Nat) (u : UInt8), (fx m k)[j]? = some u → (wr.alloc (.cells #[.int .u8 (((dv m k : Nat) : Int) % 256)] 5)).cell? ((⟨g, 0, none⟩ : Addr).add j) = some (b2v u)) := Lib.hid (fun j u hu => by
          have := (ho.alloc (.cells #[.int .u8 (((dv m k : Nat) : Int) % 256)] 5)).cell (fx_length m k) hu
          rw [show (⟨g, 0, none⟩ : Addr).add j = ⟨g, j, none⟩ by unfold Addr.add; split <;> simp_all]; exact this)
        have HB := Lib.hid hb
        have HS := Lib.hid (dv_succ m k)
        have HL := Lib.hid (fx_length m k)
        clear hv ho hb
        go_wp2_with (at_builtin; refine wpB_append _ rfl _ _ rfl w.heap.size _ [UInt8.ofNat (dv m k)] HO1.out rfl ⟨g, 0, none⟩ k cap (fx m k) rfl HL.out HC1.out ?c2 ?c3 ?_; rotate_left 2; intro v' w1 hown' hgrow'; have HO' := Lib.hid hown'; have HG := Lib.hid hgrow'; clear hown' hgrow')
        · obtain ⟨g', cap', rfl⟩ := HO'.out.shape (by simp)
          go_roundw
          case rel => exact ⟨k + 1, g', cap', by omega, by rw [HS.out]; go_num, by simp [HL.out], HO'.out, (HB.out.alloc HB.out.size _).grown HG.out (by simp [go_sem]; have := HB.out.size; omega) (fun i hi => by injection hi with hi; rw [← hi]; exact HB.out.size)⟩
          case measure => simp [intOf]; omega
        case c2 => simp; omega
        case c3 => have := HB.out.size; simp [go_sem]; omega
      · have hz : dv m k = 0 := by have := (nbV_iff hm hk4); omega
        obtain rfl : k = nbV m := by omega
        have hcv := conv_own ho
        have hun : (⟨(fx m (nbV m)).toArray⟩ : ByteArray) = unb m := rfl
        rw [hun] at hcv
        have hus : (unb m).size ≤ maxLen := by rw [unb_size]; unfold maxLen; omega
        have HOK := Lib.hid (sKeyOk_any wr (unb m) hus)
        have HB := Lib.hid hb
        clear ho hb hun
        rw [hz]
        cases hkk : keyOkV (unb m) with
        | true =>
          rw [hkk] at HOK
          rw [if_pos hkk] at E
          clear hkk
          generalize unb m = s at *
          go_wp2_with (go_at_call 23; refine HOK.out.mono ?_; rintro e w' ⟨rfl, rfl⟩)
          go_ret2
          exact ⟨by rw [E.out]; rfl, HB.out⟩
        | false =>
          rw [hkk] at HOK
          rw [if_neg (by rw [hkk]; simp)] at E
          clear hkk
          generalize unb m = s at *
          go_wp2_with (go_at_call 23; refine HOK.out.mono ?_; rintro e w' ⟨rfl, rfl⟩)
          go_ret2
          exact ⟨by rw [E.out]; rfl, HB.out⟩
  · have E := Lib.hid (show unV n = none from if_neg hn)
    go_enter Tryd.func52, Tryd.ntmps52
    go_wp2_with (go_at_call 38; refine (l1In_no _ _ _ _ (by omega)).mono ?_; rintro e w' ⟨rfl, rfl⟩)
    go_ret2
    exact ⟨by rw [E.out]; rfl, Below.refl _ _⟩
end Go.Proofs.YtmnkjjgfebfgmaaDoor
