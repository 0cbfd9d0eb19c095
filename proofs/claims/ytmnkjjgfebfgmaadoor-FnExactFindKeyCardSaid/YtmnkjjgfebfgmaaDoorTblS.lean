/-
  Chapter 6, the model's functions: each answers what the plain words say. They turn nothing that was there.
-/
import Derived.Test.YtmnkjjgfebfgmaaDoorTblV
import Derived.Test.YtmnkjjgfebfgmaaDoorKdS
import Derived.Test.YtmnkjjgfebfgmaaDoorLayS
import Derived.Test.YtmnkjjgfebfgmaaDoorCellA
import Derived.Test.YtmnkjjgfebfgmaaDoorCopyS
namespace Go.Proofs.YtmnkjjgfebfgmaaDoor
open Go.RowKit M
set_option linter.unusedVariables false
theorem key_ne {key : ByteArray} (h : keyOkV key = true) : key ≠ ⟨#[]⟩ := fun e => by subst e; exact absurd h (by decide)
theorem cellK_at {w : World} {b off : Nat} {zs : List Int} {s : Int} (h4 : ∀ j, j < zs.length → w.cell? ⟨b, off + j, none⟩ = some (.int .i64 (zs.getD j 0))) (hl : zs.length = 71) (h0 : 0 ≤ s) (h3 : s ≤ 3) : w.cell? ⟨b, off + (3 + s).toNat, none⟩ = some (.int .i64 (cellK zs s)) :=
  h4 _ (by omega)
/-- Three numbers. -/
def find3 (r : Int × Int × Int) : Value := .tuple #[.int .i64 r.1, .int .i64 r.2.1, .int .i64 r.2.2]
theorem ret_find {a b c : Int} {r : Int × Int × Int} (h : r = (a, b, c)) : Ending.returned (.tuple #[.int .i64 a, .int .i64 b, .int .i64 c]) = .returned (find3 r) := by subst h; rfl
set_option maxRecDepth 100000 in
set_option maxHeartbeats 1600000 in
theorem sFind_any (w : World) (v : Value) (zs : List Int) (key : ByteArray) (hz : Ints w v zs) (hc : okC zs = true) (hk : keyOkV key = true) :
    Calls Tryd.prog 24 #[v, .string key] w (Gives (find3 (findV zs key)) w) := by
  have hks : key.size ≤ maxLen := by have := (keyOkV_iff.1 hk).1; unfold maxLen; omega
  have hl := okC_len hc
  have HZ := Lib.hid hz
  have HC := Lib.hid hc
  have HK := Lib.hid hk
  have HKN := Lib.hid (key_ne hk)
  obtain ⟨b, off, cap, rfl, hcl, hcm, _, _⟩ := hz
  rw [hl] at *
  clear hc hk
  go_enter Tryd.func24, Tryd.ntmps24
  go_wp2
  go_loopw [7] (fun x wr => ∃ n : Nat, n ≤ 4 ∧ x = .int .i64 n ∧ (∀ m : Nat, m < n → stepF zs key m = none) ∧ Below w.heap.size w wr) (fun x _ => 4 - (intOf x).toNat)
  case atStart => exact ⟨0, Nat.zero_le _, rfl, fun m hm => absurd hm (Nat.not_lt_zero _), Below.refl _ _⟩
  case round =>
    obtain ⟨n, hn, rfl, hd, hb⟩ := hrel
    have HD := Lib.hid hd
    have HB := Lib.hid hb
    clear hd hb
    by_cases hlt : n < 4
    · obtain ⟨p0, p3⟩ := probe_bd HK.out hlt
      have HP := Lib.hid (sProbe_any wr key n hks)
      have HKC := Lib.hid (sKey_any (probeV key n) wr)
      rw [keyV_yes ⟨p0, p3⟩] at HKC
      have hcell : ∀ W, Below w.heap.size w W → W.cell? ⟨b, off + (3 + probeV key n).toNat, none⟩ = some (.int .i64 (cellK zs (probeV key n))) := fun W hW => by
        obtain ⟨b', off', cap', e, _, _, _, h4⟩ := HZ.out.below hW
        injection e with e1 _ _
        injection e1 with e1
        injection e1 with e1 e2 _
        subst e1; subst e2
        exact cellK_at h4 (okC_len HC.out) p0 p3
      have hcr := hcell wr HB.out
      have hp71 : 3 + probeV key n < 71 := by omega
      have HS := Lib.hid (show stepF zs key n = if cellK zs (probeV key n) = 0 then some (-1, 0, probeV key n) else match untagV (cellK zs (probeV key n)) with | some (k, kd) => if k = key then some (probeV key n, kd, -1) else none | none => none from rfl)
      by_cases hx : cellK zs (probeV key n) = 0
      · have HF := Lib.hid (findV_at hlt HD.out (HS.out.trans (if_pos hx)))
        rw [hx] at hcr
        clear hcell hx HS
        generalize probeV key n = p at *
        go_wp2_with (first | (go_at_call 40; refine HP.out.mono ?_; rintro e w' ⟨rfl, rfl⟩) | (go_at_call 32; refine HKC.out.mono ?_; rintro e w' ⟨rfl, rfl⟩))
        go_ret3
        exact ⟨ret_find HF.out, HB.out⟩
      · have hxne : (cellK zs (probeV key n) == 0) = false := by rw [beq_eq_false_iff_ne]; exact hx
        have HU := Lib.hid (sUntag_any wr (cellK zs (probeV key n)))
        have HS2 := Lib.hid (HS.out.trans (if_neg hx))
        clear HS hx hcell
        cases hu : untagV (cellK zs (probeV key n)) with
        | none =>
          rw [hu] at HS2
          rw [hu, untT_none] at HU
          have HN := Lib.hid (none_next HD.out HS2.out)
          have hkn := txt_ne (Ne.symm HKN.out)
          have hkn2 := txt_full HKN.out
          clear hu HS2
          generalize cellK zs (probeV key n) = x at *
          generalize probeV key n = p at *
          go_wp2_with (first | (go_at_call 40; refine HP.out.mono ?_; rintro e w' ⟨rfl, rfl⟩) | (go_at_call 32; refine HKC.out.mono ?_; rintro e w' ⟨rfl, rfl⟩) | (go_at_call 36; refine HU.out.mono ?_; rintro e w2 ⟨rfl, hb2⟩))
          go_roundw
          case rel => exact ⟨n + 1, by omega, by go_num, HN.out, HB.out.trans (hb2.mono HB.out.size)⟩
          case measure => simp [intOf]; omega
        | some u =>
          obtain ⟨k, kd⟩ := u
          rw [hu] at HS2
          rw [hu, untT_some] at HU
          by_cases he : k = key
          · have HF := Lib.hid (findV_at hlt HD.out (HS2.out.trans (if_pos he)))
            subst he
            clear hu HS2
            generalize cellK zs (probeV k n) = x at *
            generalize probeV k n = p at *
            go_wp2_with (first | (go_at_call 40; refine HP.out.mono ?_; rintro e w' ⟨rfl, rfl⟩) | (go_at_call 32; refine HKC.out.mono ?_; rintro e w' ⟨rfl, rfl⟩) | (go_at_call 36; refine HU.out.mono ?_; rintro e w2 ⟨rfl, hb2⟩))
            go_ret3
            exact ⟨ret_find HF.out, HB.out.trans (hb2.mono HB.out.size)⟩
          · have HN := Lib.hid (none_next HD.out (HS2.out.trans (if_neg he)))
            have hkn := txt_ne he
            clear hu HS2 he
            generalize cellK zs (probeV key n) = x at *
            generalize probeV key n = p at *
            go_wp2_with (first | (go_at_call 40; refine HP.out.mono ?_; rintro e w' ⟨rfl, rfl⟩) | (go_at_call 32; refine HKC.out.mono ?_; rintro e w' ⟨rfl, rfl⟩) | (go_at_call 36; refine HU.out.mono ?_; rintro e w2 ⟨rfl, hb2⟩))
            go_roundw
            case rel => exact ⟨n + 1, by omega, by go_num, HN.out, HB.out.trans (hb2.mono HB.out.size)⟩
            case measure => simp [intOf]; omega
    · have hge : decide ((n : Int) < 4) = false := by simp; omega
      have HF := Lib.hid (findV_none (fun m hm => HD.out m (by omega)))
      go_wp2
      go_ret3
      exact ⟨ret_find HF.out, HB.out⟩
set_option maxRecDepth 100000 in
theorem sFindKey_any (w : World) (v : Value) (zs : List Int) (key : ByteArray) (hz : Ints w v zs) (hs : key.size ≤ maxLen) :
    Calls Tryd.prog 7 #[v, .string key] w (Gives (.tuple #[.int .i64 (fkS zs key), .int .i64 (fkK zs key)]) w) := by
  have HC := Lib.hid (sOk_any w v zs hz)
  have HO := Lib.hid (sKeyOk_any w key hs)
  have HZ := Lib.hid hz
  obtain ⟨b, off, cap, rfl, _, _, _, _⟩ := hz
  cases hc : okC zs with
  | false =>
    have E1 := Lib.hid (show fkS zs key = -1 from if_neg (by rw [hc]; simp))
    have E2 := Lib.hid (show fkK zs key = 0 from if_neg (by rw [hc]; simp))
    rw [hc] at HC
    clear hc
    go_enter Tryd.func7, Tryd.ntmps7
    go_wp2_with (go_at_call 22; refine HC.out.mono ?_; rintro e w' ⟨rfl, rfl⟩)
    go_ret2
    exact ⟨ret_ii E1.out.symm E2.out.symm, Below.refl _ _⟩
  | true =>
    cases hk : keyOkV key with
    | false =>
      have E1 := Lib.hid (show fkS zs key = -1 from if_neg (by rw [hk]; simp))
      have E2 := Lib.hid (show fkK zs key = 0 from if_neg (by rw [hk]; simp))
      rw [hc] at HC
      rw [hk] at HO
      clear hc hk
      go_enter Tryd.func7, Tryd.ntmps7
      go_wp2_with (first | (go_at_call 22; refine HC.out.mono ?_; rintro e w' ⟨rfl, rfl⟩) | (go_at_call 23; refine HO.out.mono ?_; rintro e w' ⟨rfl, rfl⟩))
      go_ret2
      exact ⟨ret_ii E1.out.symm E2.out.symm, Below.refl _ _⟩
    | true =>
      have E1 := Lib.hid (show fkS zs key = (findV zs key).1 from if_pos ⟨hc, hk⟩)
      have E2 := Lib.hid (show fkK zs key = (findV zs key).2.1 from if_pos ⟨hc, hk⟩)
      have HF := Lib.hid (sFind_any w _ zs key HZ.out hc hk)
      rw [hc] at HC
      rw [hk] at HO
      unfold find3 at HF
      generalize findV zs key = r at *
      clear hc hk
      go_enter Tryd.func7, Tryd.ntmps7
      go_wp2_with (first | (go_at_call 22; refine HC.out.mono ?_; rintro e w' ⟨rfl, rfl⟩) | (go_at_call 23; refine HO.out.mono ?_; rintro e w' ⟨rfl, rfl⟩) | (go_at_call 24; refine HF.out.mono ?_; rintro e w2 ⟨rfl, hb⟩))
      go_ret2
      exact ⟨ret_ii E1.out.symm E2.out.symm, hb⟩
set_option maxRecDepth 100000 in
set_option maxHeartbeats 1600000 in
theorem sTableOk_any (w : World) (v : Value) (zs : List Int) (hz : Ints w v zs) : Calls Tryd.prog 20 #[v] w (Gives (.bool (tableV zs)) w) := by
  have HC := Lib.hid (sOk_any w v zs hz)
  have HZ := Lib.hid hz
  cases hc : okC zs with
  | false =>
    obtain ⟨b, off, cap, rfl, _, _, _, _⟩ := hz
    have E := Lib.hid (tableV_cells hc)
    rw [hc] at HC
    clear hc
    go_enter Tryd.func20, Tryd.ntmps20
    go_wp2_with (go_at_call 22; refine HC.out.mono ?_; rintro e w' ⟨rfl, rfl⟩)
    go_ret
    exact ⟨ret_bool E.out.symm, Below.refl _ _⟩
  | true =>
    have hl := okC_len hc
    have HCC := Lib.hid hc
    rw [hc] at HC
    obtain ⟨b, off, cap, rfl, hcl, hcm, _, _⟩ := hz
    rw [hl] at *
    clear hc
    go_enter Tryd.func20, Tryd.ntmps20
    go_wp2_with (go_at_call 22; refine HC.out.mono ?_; rintro e w' ⟨rfl, rfl⟩)
    go_loopw [3] (fun x wr => ∃ s : Nat, s ≤ 4 ∧ x = .int .i64 s ∧ (∀ m : Nat, m < s → slotR zs m = true) ∧ Below w.heap.size w wr) (fun x _ => 4 - (intOf x).toNat)
    case atStart => exact ⟨0, Nat.zero_le _, rfl, fun m hm => absurd hm (Nat.not_lt_zero _), Below.refl _ _⟩
    case round =>
      obtain ⟨s, hs, rfl, hd, hb⟩ := hrel
      have HD := Lib.hid hd
      have HB := Lib.hid hb
      clear hd hb
      by_cases hlt : s < 4
      · have hnext : slotR zs s = true → ∀ m : Nat, m < s + 1 → slotR zs m = true := fun h m hm => by
          by_cases e : m = s
          · subst e; exact h
          · exact HD.out m (by omega)
        have HNX := Lib.hid hnext
        have HNO := Lib.hid (fun h => tableV_no (zs := zs) hlt h)
        have HKC := Lib.hid (sKey_any (s : Int) wr)
        rw [keyV_yes ⟨by omega, by omega⟩] at HKC
        have hp71 : 3 + (s : Int) < 71 := by omega
        have hcr : wr.cell? ⟨b, off + (3 + (s : Int)).toNat, none⟩ = some (.int .i64 (cellK zs s)) := by
          obtain ⟨b', off', cap', e, _, _, _, h4⟩ := HZ.out.below HB.out
          injection e with e1 _ _
          injection e1 with e1
          injection e1 with e1 e2 _
          subst e1; subst e2
          exact cellK_at h4 (okC_len HCC.out) (by omega) (by omega)
        rw [show (3 + (s : Int)).toNat = 3 + s by omega] at hcr
        clear hnext
        by_cases hx : cellK zs s = 0
        · have HN := Lib.hid (HNX.out (slotR_free hx))
          rw [hx] at hcr
          clear hx
          go_wp2_with (go_at_call 32; refine HKC.out.mono ?_; rintro e w' ⟨rfl, rfl⟩)
          go_roundw
          case rel => exact ⟨s + 1, by omega, by go_num, HN.out, HB.out⟩
          case measure => simp [intOf]; omega
        · have hxne : (cellK zs s == 0) = false := by rw [beq_eq_false_iff_ne]; exact hx
          have HU := Lib.hid (sUntag_any wr (cellK zs s))
          cases hu : untagV (cellK zs s) with
          | none =>
            have HN := Lib.hid (HNO.out (slotR_none hx hu))
            rw [hu, untT_none] at HU
            clear hu hx
            generalize cellK zs s = x at *
            go_wp2_with (first | (go_at_call 32; refine HKC.out.mono ?_; rintro e w' ⟨rfl, rfl⟩) | (go_at_call 36; refine HU.out.mono ?_; rintro e w2 ⟨rfl, hb2⟩))
            go_ret
            exact ⟨ret_bool HN.out.symm, HB.out.trans (hb2.mono HB.out.size)⟩
          | some u =>
            obtain ⟨k, kd⟩ := u
            obtain ⟨_, hkk, hk1, hk3⟩ := tag_untag hu
            have HF := fun W hW => Lib.hid (sFind_any W _ zs k (HZ.out.below hW) HCC.out hkk)
            have hkd : (kd == 0) = false := by rw [beq_eq_false_iff_ne]; omega
            have hSR := slotR_some hx hu
            rw [hu, untT_some] at HU
            unfold find3 at HF
            obtain ⟨⟨r0, r1⟩, _⟩ := findV_bd (zs := zs) hkk
            generalize hr : findV zs k = r at *
            by_cases he : r.1 = (s : Int)
            · have HN := Lib.hid (HNX.out (hSR.trans (by rw [decide_eq_true]; exact he)))
              have hee : (r.1 != (s : Int)) = false := by rw [he]; simp
              clear hu hx hSR hr he
              generalize cellK zs s = x at *
              go_wp2_with (first | (go_at_call 32; refine HKC.out.mono ?_; rintro e w' ⟨rfl, rfl⟩) | (go_at_call 36; refine HU.out.mono ?_; rintro e w2 ⟨rfl, hb2⟩))
              have HB2 := Lib.hid (HB.out.trans (hb2.mono HB.out.size))
              refine (HF w2 HB2.out).out.mono ?_
              rintro e w3 ⟨rfl, hb3⟩
              go_wp2_with fail
              go_roundw
              case rel => exact ⟨s + 1, by omega, by go_num, HN.out, HB2.out.trans (hb3.mono HB2.out.size)⟩
              case measure => simp [intOf]; omega
            · have HN := Lib.hid (HNO.out (hSR.trans (by rw [decide_eq_false]; exact he)))
              have hee : (r.1 != (s : Int)) = true := by rw [bne_iff_ne]; exact he
              clear hu hx hSR hr he
              generalize cellK zs s = x at *
              go_wp2_with (first | (go_at_call 32; refine HKC.out.mono ?_; rintro e w' ⟨rfl, rfl⟩) | (go_at_call 36; refine HU.out.mono ?_; rintro e w2 ⟨rfl, hb2⟩))
              have HB2 := Lib.hid (HB.out.trans (hb2.mono HB.out.size))
              refine (HF w2 HB2.out).out.mono ?_
              rintro e w3 ⟨rfl, hb3⟩
              go_wp2_with fail
              go_ret
              exact ⟨ret_bool HN.out.symm, HB2.out.trans (hb3.mono HB2.out.size)⟩
      · have hge : decide ((s : Int) < 4) = false := by simp; omega
        have HN := Lib.hid (tableV_all HCC.out (fun m hm => HD.out m (by omega)))
        go_wp2
        go_ret
        exact ⟨ret_bool HN.out.symm, HB.out⟩
end Go.Proofs.YtmnkjjgfebfgmaaDoor
