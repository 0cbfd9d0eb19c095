/-
  Chapter 6, the program's functions: each answers what the plain words say. They turn nothing that was there.
-/
import Derived.Test.YtmnkjjgfebfgmaaDoorTblR
import Derived.Test.YtmnkjjgfebfgmaaDoorTblP
import Derived.Test.YtmnkjjgfebfgmaaDoorKdI
import Derived.Test.YtmnkjjgfebfgmaaDoorKdU
import Derived.Test.YtmnkjjgfebfgmaaDoorLayI
import Derived.Test.YtmnkjjgfebfgmaaDoorCellX
namespace Go.Proofs.YtmnkjjgfebfgmaaDoor
open Go.RowKit M
set_option linter.unusedVariables false
theorem cellK_below {w wr : World} {b off cap : Nat} {zs : List Int} {B : Nat} (hz : Ints w (.slice (some ⟨b, off, none⟩) B cap) zs) (hc : okC zs = true) (hb : Below w.heap.size w wr) {s : Int} (h0 : 0 ≤ s) (h3 : s ≤ 3) : wr.cell? ⟨b, off + (3 + s).toNat, none⟩ = some (.int .i64 (cellK zs s)) := by
  obtain ⟨b', off', cap', e, _, _, _, h4⟩ := hz.below hb
  injection e with e1 _ _
  injection e1 with e1
  injection e1 with e1 e2 _
  subst e1; subst e2
  exact cellK_at h4 (okC_len hc) h0 h3
theorem cellK_word {zs : List Int} (hc : okC zs = true) {s : Int} (h0 : 0 ≤ s) (h3 : s ≤ 3) : 0 ≤ cellK zs s ∧ cellK zs s ≤ 281474976710655 := okC_at hc _ (by omega)
theorem ownI_mono {w : World} {b b' : Nat} {v : Value} {zs : List Int} (h : OwnI w b' v zs) (hb : b ≤ b') : OwnI w b v zs := by
  obtain ⟨⟨h1, h2⟩, h3⟩ := h
  refine ⟨⟨h1, ?_⟩, h3⟩
  rcases h2 with h | ⟨g, cap, cur, e, hg, hr⟩
  · exact Or.inl h
  · exact Or.inr ⟨g, cap, cur, e, Nat.le_trans hb hg, hr⟩
theorem ret_int1 {a b : Int} (h : a = b) : Ending.returned (.int .i64 a) = .returned (.int .i64 b) := by rw [h]
set_option maxRecDepth 100000 in
set_option maxHeartbeats 1600000 in
theorem iEnd_any (w : World) (v : Value) (zs : List Int) (key : ByteArray) (hz : Ints w v zs) (hc : okC zs = true) (hk : keyOkV key = true) :
    Calls Tryd.prog 27 #[v, .string key] w (Gives (.int .i64 (slotE (findV zs key))) w) := by
  have hks : key.size ≤ maxLen := by have := (keyOkV_iff.1 hk).1; unfold maxLen; omega
  have hl := okC_len hc
  have HZ := Lib.hid hz
  have HC := Lib.hid hc
  have HK := Lib.hid hk
  have HKN := Lib.hid (key_ne hk)
  obtain ⟨b, off, cap, rfl, hcl, hcm, _, _⟩ := hz
  rw [hl] at *
  clear hc hk
  go_enter Tryd.func27, Tryd.ntmps27
  go_wp2
  go_loopw [10] (fun x wr => ∃ n : Nat, n ≤ 4 ∧ x = .int .i64 n ∧ (∀ m : Nat, m < n → stepF zs key m = none) ∧ Below w.heap.size w wr) (fun x _ => 4 - (intOf x).toNat)
  case atStart => exact ⟨0, Nat.zero_le _, rfl, fun m hm => absurd hm (Nat.not_lt_zero _), Below.refl _ _⟩
  case round =>
    obtain ⟨n, hn, rfl, hd, hb⟩ := hrel
    have HD := Lib.hid hd
    have HB := Lib.hid hb
    clear hd hb
    by_cases hlt : n < 4
    · obtain ⟨p0, p3⟩ := probe_bd HK.out hlt
      have HP := Lib.hid (iProbe_same wr key n hks)
      have HKC := Lib.hid (iKey_any (probeV key n) wr)
      rw [keyV_yes ⟨p0, p3⟩] at HKC
      have hcr := cellK_below HZ.out HC.out HB.out p0 p3
      obtain ⟨x0, x1⟩ := cellK_word HC.out p0 p3
      have hp71 : 3 + probeV key n < 71 := by omega
      have HU := Lib.hid (iUntag_any wr (cellK zs (probeV key n)) (by omega) (by omega))
      have HS := Lib.hid (show stepF zs key n = if cellK zs (probeV key n) = 0 then some (-1, 0, probeV key n) else match untagV (cellK zs (probeV key n)) with | some (k, kd) => if k = key then some (probeV key n, kd, -1) else none | none => none from rfl)
      by_cases hx : cellK zs (probeV key n) = 0
      · have HF := Lib.hid (congrArg slotE (findV_at hlt HD.out (HS.out.trans (if_pos hx))))
        rw [hx] at hcr HU
        rw [untagV_zero, untT_none] at HU
        rw [slotE_free] at HF
        have hkn := txt_ne (Ne.symm HKN.out)
        have hkn2 := txt_full HKN.out
        clear hx HS x0 x1
        generalize probeV key n = p at *
        go_wp2_with (first | (go_at_call 43; refine HP.out.mono ?_; rintro e w' ⟨rfl, rfl⟩) | (go_at_call 28; refine HKC.out.mono ?_; rintro e w' ⟨rfl, rfl⟩) | (go_at_call 29; refine HU.out.mono ?_; rintro e w2 ⟨rfl, hb2⟩))
        go_ret
        exact ⟨ret_int1 HF.out.symm, HB.out.trans (hb2.mono HB.out.size)⟩
      · have hxne : (cellK zs (probeV key n) == 0) = false := by rw [beq_eq_false_iff_ne]; exact hx
        have HS2 := Lib.hid (HS.out.trans (if_neg hx))
        clear HS hx x0 x1
        cases hu : untagV (cellK zs (probeV key n)) with
        | none =>
          rw [hu] at HS2
          rw [hu, untT_none] at HU
          have HN := Lib.hid (none_next HD.out HS2.out)
          have hkn := txt_ne (Ne.symm HKN.out)
          have hkn2 := txt_full HKN.out
          clear hu HS2
          generalize cellK zs (probeV key n) = x at *
          generalize probeV key n = p at *
          go_wp2_with (first | (go_at_call 43; refine HP.out.mono ?_; rintro e w' ⟨rfl, rfl⟩) | (go_at_call 28; refine HKC.out.mono ?_; rintro e w' ⟨rfl, rfl⟩) | (go_at_call 29; refine HU.out.mono ?_; rintro e w2 ⟨rfl, hb2⟩))
          go_roundw
          case rel => exact ⟨n + 1, by omega, by go_num, HN.out, HB.out.trans (hb2.mono HB.out.size)⟩
          case measure => simp [intOf]; omega
        | some u =>
          obtain ⟨k, kd⟩ := u
          rw [hu] at HS2
          rw [hu, untT_some] at HU
          by_cases he : k = key
          · have HF := Lib.hid ((congrArg slotE (findV_at hlt HD.out (HS2.out.trans (if_pos he)))).trans (slotE_found p0 kd (-1)))
            subst he
            clear hu HS2
            generalize cellK zs (probeV k n) = x at *
            generalize probeV k n = p at *
            go_wp2_with (first | (go_at_call 43; refine HP.out.mono ?_; rintro e w' ⟨rfl, rfl⟩) | (go_at_call 28; refine HKC.out.mono ?_; rintro e w' ⟨rfl, rfl⟩) | (go_at_call 29; refine HU.out.mono ?_; rintro e w2 ⟨rfl, hb2⟩))
            go_ret
            exact ⟨ret_int1 HF.out.symm, HB.out.trans (hb2.mono HB.out.size)⟩
          · have HN := Lib.hid (none_next HD.out (HS2.out.trans (if_neg he)))
            have hkn := txt_ne he
            clear hu HS2 he
            generalize cellK zs (probeV key n) = x at *
            generalize probeV key n = p at *
            go_wp2_with (first | (go_at_call 43; refine HP.out.mono ?_; rintro e w' ⟨rfl, rfl⟩) | (go_at_call 28; refine HKC.out.mono ?_; rintro e w' ⟨rfl, rfl⟩) | (go_at_call 29; refine HU.out.mono ?_; rintro e w2 ⟨rfl, hb2⟩))
            go_roundw
            case rel => exact ⟨n + 1, by omega, by go_num, HN.out, HB.out.trans (hb2.mono HB.out.size)⟩
            case measure => simp [intOf]; omega
    · have hge : decide ((n : Int) < 4) = false := by simp; omega
      have HF := Lib.hid (congrArg slotE (findV_none (fun m hm => HD.out m (by omega))))
      go_wp2
      go_ret
      exact ⟨ret_int1 HF.out.symm, HB.out⟩
set_option maxRecDepth 100000 in
set_option maxHeartbeats 800000 in
theorem iFindKey_any (w : World) (v : Value) (zs : List Int) (key : ByteArray) (hz : Ints w v zs) (hs : key.size ≤ maxLen) :
    Calls Tryd.prog 9 #[v, .string key] w (Gives (.tuple #[.int .i64 (fkS zs key), .int .i64 (fkK zs key)]) w) := by
  have HC := Lib.hid (iOk_any w v zs hz)
  have HO := Lib.hid (iKeyOk_same w key hs)
  have HZ := Lib.hid hz
  cases hc : okC zs with
  | false =>
    obtain ⟨b, off, cap, rfl, _, _, _, _⟩ := hz
    have E1 := Lib.hid (show fkS zs key = -1 from if_neg (by rw [hc]; simp))
    have E2 := Lib.hid (show fkK zs key = 0 from if_neg (by rw [hc]; simp))
    rw [hc] at HC
    clear hc
    go_enter Tryd.func9, Tryd.ntmps9
    go_wp2_with (go_at_call 25; refine HC.out.mono ?_; rintro e w' ⟨rfl, rfl⟩)
    go_ret2
    exact ⟨ret_ii E1.out.symm E2.out.symm, Below.refl _ _⟩
  | true =>
    cases hk : keyOkV key with
    | false =>
      obtain ⟨b, off, cap, rfl, _, _, _, _⟩ := hz
      have E1 := Lib.hid (show fkS zs key = -1 from if_neg (by rw [hk]; simp))
      have E2 := Lib.hid (show fkK zs key = 0 from if_neg (by rw [hk]; simp))
      rw [hc] at HC
      rw [hk] at HO
      clear hc hk
      go_enter Tryd.func9, Tryd.ntmps9
      go_wp2_with (first | (go_at_call 25; refine HC.out.mono ?_; rintro e w' ⟨rfl, rfl⟩) | (go_at_call 26; refine HO.out.mono ?_; rintro e w' ⟨rfl, rfl⟩))
      go_ret2
      exact ⟨ret_ii E1.out.symm E2.out.symm, Below.refl _ _⟩
    | true =>
      have E1 := Lib.hid (show fkS zs key = (findV zs key).1 from if_pos ⟨hc, hk⟩)
      have E2 := Lib.hid (show fkK zs key = (findV zs key).2.1 from if_pos ⟨hc, hk⟩)
      have HF := Lib.hid (iEnd_any w _ zs key hz hc hk)
      have hl := okC_len hc
      have HEN := Lib.hid (findV_ends zs hk)
      have HCC := Lib.hid hc
      rw [hc] at HC
      rw [hk] at HO
      obtain ⟨b, off, cap, rfl, _, _, _, _⟩ := hz
      rw [hl] at *
      clear hc hk
      rcases HEN.out with hr | ⟨p, p0, p3, ⟨hr, hx⟩ | ⟨kd, hr, hx, hu⟩⟩
      · rw [hr] at E1 E2 HF
        rw [slotE_free] at HF
        clear hr HEN
        go_enter Tryd.func9, Tryd.ntmps9
        go_wp2_with (first | (go_at_call 25; refine HC.out.mono ?_; rintro e w' ⟨rfl, rfl⟩) | (go_at_call 26; refine HO.out.mono ?_; rintro e w' ⟨rfl, rfl⟩) | (go_at_call 27; refine HF.out.mono ?_; rintro e w2 ⟨rfl, hb⟩))
        go_ret2
        exact ⟨ret_ii E1.out.symm E2.out.symm, hb⟩
      · have HCR := fun W (hb : Below w.heap.size w W) => cellK_below HZ.out HCC.out hb p0 p3
        rw [hr] at E1 E2 HF
        rw [slotE_free] at HF
        rw [hx] at HCR
        have HKC := fun W => Lib.hid (iKey_any p W)
        rw [keyV_yes ⟨p0, p3⟩] at HKC
        have hp71 : 3 + p < 71 := by omega
        have hpn : decide (p < 0) = false := by rw [decide_eq_false]; omega
        have HCR := Lib.hid HCR
        clear hr HEN hx
        go_enter Tryd.func9, Tryd.ntmps9
        go_wp2_with (first | (go_at_call 25; refine HC.out.mono ?_; rintro e w' ⟨rfl, rfl⟩) | (go_at_call 26; refine HO.out.mono ?_; rintro e w' ⟨rfl, rfl⟩) | (go_at_call 27; refine HF.out.mono ?_; rintro e w2 ⟨rfl, hb⟩; have hcr := HCR.out w2 hb) | (go_at_call 28; refine (HKC _).out.mono ?_; rintro e w' ⟨rfl, rfl⟩))
        go_ret2
        exact ⟨ret_ii E1.out.symm E2.out.symm, hb⟩
      · have HCR := Lib.hid (fun W (hb : Below w.heap.size w W) => cellK_below HZ.out HCC.out hb p0 p3)
        rw [hr] at E1 E2 HF
        rw [slotE_found p0] at HF
        obtain ⟨x0, x1⟩ := cellK_word HCC.out p0 p3
        have HU := fun W => Lib.hid (iUntag_any W (cellK zs p) (by omega) (by omega))
        rw [hu, untT_some] at HU
        have HKC := fun W => Lib.hid (iKey_any p W)
        rw [keyV_yes ⟨p0, p3⟩] at HKC
        have hp71 : 3 + p < 71 := by omega
        have hpn : decide (p < 0) = false := by rw [decide_eq_false]; omega
        have hxne : (cellK zs p == 0) = false := by rw [beq_eq_false_iff_ne]; exact hx
        clear hr HEN hx hu x0 x1
        generalize cellK zs p = x at *
        go_enter Tryd.func9, Tryd.ntmps9
        go_wp2_with (first | (go_at_call 25; refine HC.out.mono ?_; rintro e w' ⟨rfl, rfl⟩) | (go_at_call 26; refine HO.out.mono ?_; rintro e w' ⟨rfl, rfl⟩) | (go_at_call 27; refine HF.out.mono ?_; rintro e w2 ⟨rfl, hb⟩; have hcr := HCR.out w2 hb) | (go_at_call 28; refine (HKC _).out.mono ?_; rintro e w' ⟨rfl, rfl⟩) | (go_at_call 29; refine (HU _).out.mono ?_; rintro e w3 ⟨rfl, hb3⟩))
        go_ret2
        exact ⟨ret_ii E1.out.symm E2.out.symm, hb.trans (hb3.mono hb.size)⟩
set_option maxRecDepth 100000 in
set_option maxHeartbeats 1600000 in
theorem iTableOk_any (w : World) (v : Value) (zs : List Int) (hz : Ints w v zs) : Calls Tryd.prog 21 #[v] w (Gives (.bool (tableV zs)) w) := by
  have HC := Lib.hid (iOk_any w v zs hz)
  have HZ := Lib.hid hz
  cases hc : okC zs with
  | false =>
    obtain ⟨b, off, cap, rfl, _, _, _, _⟩ := hz
    have E := Lib.hid (tableV_cells hc)
    rw [hc] at HC
    clear hc
    go_enter Tryd.func21, Tryd.ntmps21
    go_wp2_with (go_at_call 25; refine HC.out.mono ?_; rintro e w' ⟨rfl, rfl⟩)
    go_ret
    exact ⟨ret_bool E.out.symm, Below.refl _ _⟩
  | true =>
    have hl := okC_len hc
    have HCC := Lib.hid hc
    have HFK := fun W h k hk => Lib.hid (iFindKey_any W v zs k (HZ.out.below (w' := W) h) hk)
    rw [hc] at HC
    obtain ⟨b, off, cap, rfl, hcl, hcm, _, _⟩ := hz
    rw [hl] at *
    clear hc
    go_enter Tryd.func21, Tryd.ntmps21
    go_wp2_with (go_at_call 25; refine HC.out.mono ?_; rintro e w' ⟨rfl, rfl⟩)
    go_loopw [12] (fun x wr => ∃ s : Nat, s ≤ 4 ∧ x = .int .i64 s ∧ (∀ m : Nat, m < s → slotR zs m = true) ∧ Below w.heap.size w wr) (fun x _ => 4 - (intOf x).toNat)
    case atStart => exact ⟨0, Nat.zero_le _, rfl, fun m hm => absurd hm (Nat.not_lt_zero _), Below.refl _ _⟩
    case round =>
      obtain ⟨s, hs, rfl, hd, hb⟩ := hrel
      have HD := Lib.hid hd
      have HB := Lib.hid hb
      clear hd hb
      by_cases hlt : s < 4
      · have hnext : slotR zs s = true → ∀ m : Nat, m < s + 1 → slotR zs m = true := fun h m hm => by
          by_cases e : m = s
          · subst e; exact h
          · exact HD.out m (by omega)
        have HNX := Lib.hid hnext
        have HNO := Lib.hid (fun h => tableV_no (zs := zs) hlt h)
        have HKC := Lib.hid (iKey_any (s : Int) wr)
        rw [keyV_yes ⟨by omega, by omega⟩] at HKC
        have hp71 : 3 + (s : Int) < 71 := by omega
        have hcr := cellK_below HZ.out HCC.out HB.out (s := (s : Int)) (by omega) (by omega)
        rw [show (3 + (s : Int)).toNat = 3 + s by omega] at hcr
        obtain ⟨x0, x1⟩ := cellK_word HCC.out (s := (s : Int)) (by omega) (by omega)
        have HU := Lib.hid (iUntag_any wr (cellK zs s) (by omega) (by omega))
        clear hnext x0 x1
        by_cases hx : cellK zs s = 0
        · have HR := Lib.hid (HNX.out (slotR_free hx))
          have HK := fun W h => HFK W h ⟨#[]⟩ (by decide)
          generalize fkS zs ⟨#[]⟩ = r1 at *
          generalize fkK zs ⟨#[]⟩ = r2 at *
          rw [hx, untagV_zero, untT_none] at HU
          rw [hx] at hcr
          clear hx
          go_wp2_with (first | (go_at_call 28; refine HKC.out.mono ?_; rintro e w' ⟨rfl, rfl⟩) | (go_at_call 29; refine HU.out.mono ?_; rintro e w2 ⟨rfl, hb2⟩))
          refine (HK w2 (HB.out.trans (hb2.mono HB.out.size))).out.mono ?_
          rintro e w3 ⟨rfl, hb3⟩
          have HB3 := Lib.hid ((HB.out.trans (hb2.mono HB.out.size)).trans (hb3.mono (HB.out.trans (hb2.mono HB.out.size)).size))
          clear hb2 hb3
          go_wp2_with fail
          go_roundw
          case rel => exact ⟨s + 1, by omega, by go_num, HR.out, HB3.out⟩
          case measure => simp [intOf]; omega
        · have hxne : (cellK zs s != 0) = true := by rw [bne_iff_ne]; exact hx
          cases hu : untagV (cellK zs (s : Nat)) with
          | none =>
            have HR := Lib.hid (HNO.out (slotR_none hx hu))
            have hfe : fkS zs ⟨#[]⟩ = -1 := if_neg (fun h => absurd h.2 (by decide))
            have HK := fun W h => HFK W h ⟨#[]⟩ (by decide)
            rw [hfe] at HK
            generalize fkK zs ⟨#[]⟩ = r2 at *
            rw [hu, untT_none] at HU
            have hne : ((-1 : Int) != (s : Int)) = true := by rw [bne_iff_ne]; omega
            clear hx hu hfe
            generalize cellK zs s = x at *
            go_wp2_with (first | (go_at_call 28; refine HKC.out.mono ?_; rintro e w' ⟨rfl, rfl⟩) | (go_at_call 29; refine HU.out.mono ?_; rintro e w2 ⟨rfl, hb2⟩))
            refine (HK w2 (HB.out.trans (hb2.mono HB.out.size))).out.mono ?_
            rintro e w3 ⟨rfl, hb3⟩
            have HB3 := Lib.hid ((HB.out.trans (hb2.mono HB.out.size)).trans (hb3.mono (HB.out.trans (hb2.mono HB.out.size)).size))
            clear hb2 hb3
            go_wp2_with fail
            go_ret
            exact ⟨ret_bool HR.out.symm, HB3.out⟩
          | some u =>
            obtain ⟨k, kd⟩ := u
            obtain ⟨_, hkk, _, _⟩ := tag_untag hu
            have hks : k.size ≤ maxLen := by have := (keyOkV_iff.1 hkk).1; unfold maxLen; omega
            have HSL := Lib.hid (slotR_some hx hu)
            have hfe : fkS zs k = (findV zs k).1 := if_pos ⟨HCC.out, hkk⟩
            have HK := fun W h => HFK W h k hks
            rw [hfe] at HK
            generalize fkK zs k = r2 at *
            rw [hu, untT_some] at HU
            generalize (findV zs k).1 = r1 at *
            clear hx hu hfe hkk hks
            generalize cellK zs s = x at *
            by_cases he : r1 = (s : Int)
            · have HR := Lib.hid (HNX.out (HSL.out.trans (decide_eq_true he)))
              have hne : (r1 != (s : Int)) = false := by rw [he]; simp
              clear he
              go_wp2_with (first | (go_at_call 28; refine HKC.out.mono ?_; rintro e w' ⟨rfl, rfl⟩) | (go_at_call 29; refine HU.out.mono ?_; rintro e w2 ⟨rfl, hb2⟩))
              refine (HK w2 (HB.out.trans (hb2.mono HB.out.size))).out.mono ?_
              rintro e w3 ⟨rfl, hb3⟩
              have HB3 := Lib.hid ((HB.out.trans (hb2.mono HB.out.size)).trans (hb3.mono (HB.out.trans (hb2.mono HB.out.size)).size))
              clear hb2 hb3
              go_wp2_with fail
              go_roundw
              case rel => exact ⟨s + 1, by omega, by go_num, HR.out, HB3.out⟩
              case measure => simp [intOf]; omega
            · have HR := Lib.hid (HNO.out (HSL.out.trans (decide_eq_false he)))
              have hne : (r1 != (s : Int)) = true := by rw [bne_iff_ne]; exact he
              clear he
              go_wp2_with (first | (go_at_call 28; refine HKC.out.mono ?_; rintro e w' ⟨rfl, rfl⟩) | (go_at_call 29; refine HU.out.mono ?_; rintro e w2 ⟨rfl, hb2⟩))
              refine (HK w2 (HB.out.trans (hb2.mono HB.out.size))).out.mono ?_
              rintro e w3 ⟨rfl, hb3⟩
              have HB3 := Lib.hid ((HB.out.trans (hb2.mono HB.out.size)).trans (hb3.mono (HB.out.trans (hb2.mono HB.out.size)).size))
              clear hb2 hb3
              go_wp2_with fail
              go_ret
              exact ⟨ret_bool HR.out.symm, HB3.out⟩
      · have hge : decide ((s : Int) < 4) = false := by simp; omega
        have HR := Lib.hid (tableV_all HCC.out (fun m hm => HD.out m (by omega)))
        go_wp2
        go_ret
        exact ⟨ret_bool HR.out.symm, HB.out⟩
set_option maxRecDepth 100000 in
set_option maxHeartbeats 1600000 in
theorem iKeysIn_any (w : World) (v : Value) (zs : List Int) (hz : Ints w v zs) : Calls Tryd.prog 16 #[v] w (MadeT w (keysV zs)) := by
  have HC := Lib.hid (iOk_any w v zs hz)
  have HZ := Lib.hid hz
  cases hc : okC zs with
  | false =>
    obtain ⟨b, off, cap, rfl, _, _, _, _⟩ := hz
    have E := Lib.hid (show keysV zs = [] from if_neg (by rw [hc]; simp))
    rw [hc] at HC
    clear hc
    go_enter Tryd.func16, Tryd.ntmps16
    go_wp2_with (go_at_call 25; refine HC.out.mono ?_; rintro e w' ⟨rfl, rfl⟩)
    go_ret
    exact ⟨_, rfl, by rw [E.out]; exact World.ownsRow_nil _ _ _ _, Below.refl _ _⟩
  | true =>
    have hl := okC_len hc
    have HCC := Lib.hid hc
    rw [hc] at HC
    obtain ⟨b, off, cap, rfl, hcl, hcm, _, _⟩ := hz
    rw [hl] at *
    clear hc
    go_enter Tryd.func16, Tryd.ntmps16
    go_wp2_with (go_at_call 25; refine HC.out.mono ?_; rintro e w' ⟨rfl, rfl⟩)
    go_loopw [3, 10] (fun u x wr => ∃ s : Nat, s ≤ 4 ∧ x = .int .i64 s ∧ OwnT wr w.heap.size u (keysT zs s) ∧ Below w.heap.size w wr) (fun _ x _ => 4 - (intOf x).toNat)
    case atStart => exact ⟨0, Nat.zero_le _, rfl, World.ownsRow_nil _ _ _ _, Below.refl _ _⟩
    case round =>
      obtain ⟨s, hs, rfl, ho, hb⟩ := hrel
      have HO := Lib.hid ho
      have HB := Lib.hid hb
      have hlen := keysT_len zs s
      clear ho hb
      by_cases hlt : s < 4
      · have hlt2 : decide ((s : Int) < 4) = true := by rw [decide_eq_true]; omega
        have HKC := fun W => Lib.hid (iKey_any (s : Int) W)
        rw [keyV_yes ⟨by omega, by omega⟩] at HKC
        have hp71 : 3 + (s : Int) < 71 := by omega
        have hcr := cellK_below HZ.out HCC.out HB.out (s := (s : Int)) (by omega) (by omega)
        rw [show (3 + (s : Int)).toNat = 3 + s by omega] at hcr
        obtain ⟨x0, x1⟩ := cellK_word HCC.out (s := (s : Int)) (by omega) (by omega)
        have HU := fun W => Lib.hid (iUntag_any W (cellK zs s) (by omega) (by omega))
        clear x0 x1
        cases hu : untagV (cellK zs (s : Nat)) with
        | none =>
          have HN := Lib.hid (keysT_none hu)
          rw [hu, untT_none] at HU
          clear hu
          generalize cellK zs s = x at *
          go_wp2_with (go_at_call 28; refine (HKC _).out.mono ?_; rintro e w' ⟨rfl, rfl⟩)
          refine (HU wr).out.mono ?_
          rintro e w2 ⟨rfl, hb2⟩
          go_wp2_with fail
          go_roundw
          case rel => exact ⟨s + 1, by omega, by go_num, by rw [HN.out]; exact HO.out.below hb2, HB.out.trans (hb2.mono HB.out.size)⟩
          case measure => simp [intOf]; omega
        | some u =>
          obtain ⟨k, kd⟩ := u
          obtain ⟨_, _, hk1, _⟩ := tag_untag hu
          have hkd : (kd != 0) = true := by rw [bne_iff_ne]; omega
          have HN := Lib.hid (keysT_some hu)
          rw [hu, untT_some] at HU
          clear hu
          generalize cellK zs s = x at *
          go_wp2_with (go_at_call 28; refine (HKC _).out.mono ?_; rintro e w' ⟨rfl, rfl⟩)
          refine (HU wr).out.mono ?_
          rintro e w2 ⟨rfl, hb2⟩
          have HO2 := Lib.hid (HO.out.below hb2)
          have HB2 := Lib.hid (HB.out.trans (hb2.mono HB.out.size))
          clear hb2
          go_wp2_with (at_builtin; refine wpT_append w2 rfl _ _ rfl w.heap.size _ _ HO2.out rfl k rfl ?c1 ?c2 ?_; rotate_left 2; intro v' w3 hown' hgrow'; have HO3 := Lib.hid hown'; have HG := Lib.hid hgrow'; clear hown' hgrow')
          · go_roundw
            case rel => exact ⟨s + 1, by omega, by go_num, by rw [HN.out]; exact HO3.out, (HB2.out.alloc HB2.out.size _).grown HG.out (by simp [go_sem]; have := HB2.out.size; omega) HO2.out.base_le⟩
            case measure => simp [intOf]; omega
          case c1 => omega
          case c2 => exact HB2.out.size
      · have hge : decide ((s : Int) < 4) = false := by simp; omega
        have E := Lib.hid (show keysV zs = keysT zs s by rw [show s = 4 by omega]; exact if_pos HCC.out)
        go_wp2
        go_ret
        exact ⟨_, rfl, by rw [E.out]; exact HO.out, HB.out⟩
/-- What registering comes to where the way ends at a free slot. -/
theorem reg_free {zs : List Int} {key : ByteArray} {k p : Int} (hr : regOk zs key k = true) (h0 : 0 ≤ p) (h3 : p ≤ 3) (hf : findV zs key = (-1, 0, p)) (hx : cellK zs p = 0) :
    casC zs (3 + p) 0 (tagV key k) = regC zs key k ∧ casR zs (3 + p) 0 (tagV key k) = true ∧ regS zs key k = p ∧ regD zs key k = 0 := by
  have hc : okC zs = true := by simp only [regOk, Bool.and_eq_true] at hr; exact hr.1
  have ha : atC zs (3 + p) = true := atC_iff.2 ⟨hc, by omega, by omega⟩
  have hw : isW (tagV key k) = true := isW_iff.2 (by have := tagV_bd key k; omega)
  have h1 : casOk zs (3 + p) 0 = true := by unfold casOk; rw [ha]; show (cellK zs p == 0) = true; rw [hx]; rfl
  have h2 : storeOk zs (3 + p) (tagV key k) = true := by unfold storeOk; rw [ha, hw]; rfl
  obtain ⟨e1, e2, e3⟩ := reg_new (zs := zs) (key := key) (k := k) hr (by rw [hf]; exact (by decide : (-1 : Int) < 0)) (by rw [hf]; exact h0)
  rw [hf] at e1 e2
  refine ⟨?_, ?_, e2, e3⟩
  · rw [e1]; unfold casC; rw [if_pos h1]; exact store_yes h2
  · unfold casR; rw [h1, h2]; rfl
/-- And where it ends at the key's own. -/
theorem reg_found {zs : List Int} {key : ByteArray} {k p kd : Int} (hr : regOk zs key k = true) (h0 : 0 ≤ p) (h3 : p ≤ 3) (hf : findV zs key = (p, kd, -1)) (hx : cellK zs p ≠ 0) (t : Int) :
    casR zs (3 + p) 0 t = false ∧ regC zs key k = zs ∧ regS zs key k = p ∧ regD zs key k = if kd = k then 0 else 4 := by
  obtain ⟨e1, e2, e3⟩ := reg_slot (zs := zs) (key := key) (k := k) hr (by rw [hf]; exact h0)
  rw [hf] at e2 e3
  refine ⟨?_, e1, e2, e3⟩
  have h1 : casOk zs (3 + p) 0 = false := by
    unfold casOk
    rw [show (zs.getD (3 + p).toNat 0 == 0) = false from beq_eq_false_iff_ne.2 hx, Bool.and_false]
  unfold casR; rw [h1]; rfl
set_option maxRecDepth 100000 in
set_option maxHeartbeats 1600000 in
theorem iRegister_any (w : World) (v : Value) (zs : List Int) (key : ByteArray) (k : Int) (hz : Ints w v zs) (hl : zs.length ≤ 1048576) (hs : key.size ≤ maxLen) (h0 : -9223372036854775808 ≤ k) (h1 : k ≤ 9223372036854775807) :
    Calls Tryd.prog 12 #[v, .string key, .int .i64 k] w (Tup3I w (regC zs key k) (regS zs key k) (regD zs key k)) := by
  have HCP := fun W h => Lib.hid (clone_any W v zs h hl)
  have HCS := fun W h t => Lib.hid (iCas_any W v zs (3 + (slotE (findV zs key))) 0 t h hl)
  have HOK := Lib.hid (iOk_any w v zs hz)
  have HTG := Lib.hid (iTagged_same w key k hs)
  have HZ := Lib.hid hz
  cases hr : regOk zs key k with
  | false =>
    obtain ⟨b, off, cap, rfl, _, _, _, _⟩ := hz
    obtain ⟨e1, e2, e3⟩ := reg_args hr
    have E1 := Lib.hid e1
    have E2 := Lib.hid e2
    have E3 := Lib.hid e3
    clear e1 e2 e3 HCS
    cases hc : okC zs with
    | false =>
      rw [hc] at HOK
      clear hc hr
      generalize tagV key k = t at *
      go_enter Tryd.func12, Tryd.ntmps12
      go_wp2_with (first | (go_at_call 33; refine HTG.out.mono ?_; rintro e w' ⟨rfl, rfl⟩) | (go_at_call 25; refine HOK.out.mono ?_; rintro e w' ⟨rfl, rfl⟩))
      refine (HCP w HZ.out).out.mono ?_
      rintro e w1 ⟨x, rfl, ho, hb⟩
      have HO := Lib.hid ho
      have HB := Lib.hid hb
      clear ho hb
      go_wp2_with fail
      go_ret3
      exact tup3 HO.out HB.out E1.out E2.out E3.out
    | true =>
      have ht : tagV key k = 0 := tagV_no (fun x => by simp [regOk, hc, x.1, x.2.1, x.2.2] at hr)
      rw [hc] at HOK
      rw [ht] at HTG
      clear hc hr ht
      go_enter Tryd.func12, Tryd.ntmps12
      go_wp2_with (first | (go_at_call 33; refine HTG.out.mono ?_; rintro e w' ⟨rfl, rfl⟩) | (go_at_call 25; refine HOK.out.mono ?_; rintro e w' ⟨rfl, rfl⟩))
      refine (HCP w HZ.out).out.mono ?_
      rintro e w1 ⟨x, rfl, ho, hb⟩
      have HO := Lib.hid ho
      have HB := Lib.hid hb
      clear ho hb
      go_wp2_with fail
      go_ret3
      exact tup3 HO.out HB.out E1.out E2.out E3.out
  | true =>
    have hr' := hr
    simp only [regOk, Bool.and_eq_true, decide_eq_true_eq] at hr'
    obtain ⟨hc, hk, hk13⟩ := hr'
    have htne : (tagV key k == 0) = false := by rw [beq_eq_false_iff_ne]; have := tagV_ne hk hk13; omega
    have HLEN := Lib.hid (okC_len hc)
    have HCC := Lib.hid hc
    have HF := Lib.hid (iEnd_any w v zs key hz hc hk)
    rw [hc] at HOK
    have HLN := Lib.hid (okC_len hc)
    obtain ⟨b, off, cap, rfl, _, _, _, _⟩ := hz
    rw [HLN.out] at *
    rcases findV_ends zs hk with he | ⟨p, p0, p3, ⟨he, hx⟩ | ⟨kd, he, hx, hu⟩⟩
    · obtain ⟨e1, e2, e3⟩ := reg_full hr (by rw [he]; decide) (by rw [he]; decide)
      rw [he] at HF e2
      rw [slotE_free] at HF
      have E1 := Lib.hid e1
      have E2 := Lib.hid e2
      have E3 := Lib.hid e3
      clear e1 e2 e3 hr hc hk hk13 he HCS
      generalize tagV key k = t at *
      go_enter Tryd.func12, Tryd.ntmps12
      go_wp2_with (first | (go_at_call 33; refine HTG.out.mono ?_; rintro e w' ⟨rfl, rfl⟩) | (go_at_call 25; refine HOK.out.mono ?_; rintro e w' ⟨rfl, rfl⟩) | (go_at_call 27; refine HF.out.mono ?_; rintro e w2 ⟨rfl, hb2⟩))
      refine (HCP w2 (HZ.out.below hb2)).out.mono ?_
      rintro e w1 ⟨x, rfl, ho, hb⟩
      have HO := Lib.hid ho
      have HB := Lib.hid hb
      have HB2 := Lib.hid hb2
      clear ho hb hb2
      go_wp2_with fail
      go_ret3
      exact tup3 (ownI_mono HO.out HB2.out.size) (HB2.out.trans (HB.out.mono HB2.out.size)) E1.out E2.out E3.out
    · obtain ⟨e0, er, e2, e3⟩ := reg_free hr p0 p3 he hx
      have HKC := fun W => Lib.hid (iKey_any p W)
      rw [keyV_yes ⟨p0, p3⟩] at HKC
      have hpn : decide (p < 0) = false := by rw [decide_eq_false]; omega
      rw [he] at HF HCS
      rw [slotE_free] at HF HCS
      have HCT := fun W h => HCS W h (tagV key k)
      rw [e0, er] at HCT
      have E2 := Lib.hid e2
      have E3 := Lib.hid e3
      clear e0 er e2 e3 hr hc hk hk13 he hx HCS HCP
      generalize tagV key k = t at *
      generalize regC zs key k = ys at *
      go_enter Tryd.func12, Tryd.ntmps12
      go_wp2_with (first | (go_at_call 33; refine HTG.out.mono ?_; rintro e w' ⟨rfl, rfl⟩) | (go_at_call 25; refine HOK.out.mono ?_; rintro e w' ⟨rfl, rfl⟩) | (go_at_call 27; refine HF.out.mono ?_; rintro e w2 ⟨rfl, hb2⟩) | (go_at_call 28; refine (HKC _).out.mono ?_; rintro e w' ⟨rfl, rfl⟩))
      refine (HCT w2 (HZ.out.below hb2)).out.mono ?_
      rintro e w1 ⟨x, rfl, ho, hb⟩
      have HO := Lib.hid ho
      have HB := Lib.hid hb
      have HB2 := Lib.hid hb2
      clear ho hb hb2
      go_wp2_with fail
      go_ret3
      exact tup3 (ownI_mono HO.out HB2.out.size) (HB2.out.trans (HB.out.mono HB2.out.size)) rfl E2.out E3.out
    · obtain ⟨er, e1, e2, e3⟩ := reg_found hr p0 p3 he hx (tagV key k)
      have HKC := fun W => Lib.hid (iKey_any p W)
      rw [keyV_yes ⟨p0, p3⟩] at HKC
      have hpn : decide (p < 0) = false := by rw [decide_eq_false]; omega
      have hp71 : 3 + p < 71 := by omega
      have HCR := Lib.hid (fun W (hb : Below w.heap.size w W) => cellK_below HZ.out HCC.out hb p0 p3)
      have htag := tag_same hu hk13
      rw [he] at HF HCS
      rw [slotE_found p0] at HF HCS
      have HCT := fun W h => HCS W h (tagV key k)
      rw [er] at HCT
      have E1 := Lib.hid e1
      have E2 := Lib.hid e2
      have HE3 := Lib.hid e3
      clear e1 er e2 e3 hr hc hk hk13 he hx hu HCS
      generalize tagV key k = t at *
      generalize cellK zs p = y at *
      generalize casC zs (3 + p) 0 t = ys at *
      have htd : (y != t) = !decide (kd = k) := htag
      clear htag
      by_cases hkk : kd = k
      · have E3 := Lib.hid (HE3.out.trans (if_pos hkk))
        rw [decide_eq_true hkk, Bool.not_true] at htd
        clear hkk HE3
        go_enter Tryd.func12, Tryd.ntmps12
        go_wp2_with (first | (go_at_call 33; refine HTG.out.mono ?_; rintro e w' ⟨rfl, rfl⟩) | (go_at_call 25; refine HOK.out.mono ?_; rintro e w' ⟨rfl, rfl⟩) | (go_at_call 27; refine HF.out.mono ?_; rintro e w2 ⟨rfl, hb2⟩) | (go_at_call 28; refine (HKC _).out.mono ?_; rintro e w' ⟨rfl, rfl⟩))
        refine (HCT w2 (HZ.out.below hb2)).out.mono ?_
        rintro e w1 ⟨x, rfl, ho, hb⟩
        have HB := Lib.hid (hb2.trans (hb.mono hb2.size))
        have hcr := HCR.out w1 HB.out
        clear ho hb hb2
        go_wp2_with (go_at_call 28; refine (HKC _).out.mono ?_; rintro e w' ⟨rfl, rfl⟩)
        refine (HCP w1 (HZ.out.below HB.out)).out.mono ?_
        rintro e w3 ⟨x3, rfl, ho3, hb3⟩
        have HO := Lib.hid ho3
        have HB3 := Lib.hid hb3
        clear ho3 hb3
        go_wp2_with fail
        go_ret3
        exact tup3 (ownI_mono HO.out HB.out.size) (HB.out.trans (HB3.out.mono HB.out.size)) E1.out E2.out E3.out
      · have E3 := Lib.hid (HE3.out.trans (if_neg hkk))
        rw [decide_eq_false hkk, Bool.not_false] at htd
        clear hkk HE3
        go_enter Tryd.func12, Tryd.ntmps12
        go_wp2_with (first | (go_at_call 33; refine HTG.out.mono ?_; rintro e w' ⟨rfl, rfl⟩) | (go_at_call 25; refine HOK.out.mono ?_; rintro e w' ⟨rfl, rfl⟩) | (go_at_call 27; refine HF.out.mono ?_; rintro e w2 ⟨rfl, hb2⟩) | (go_at_call 28; refine (HKC _).out.mono ?_; rintro e w' ⟨rfl, rfl⟩))
        refine (HCT w2 (HZ.out.below hb2)).out.mono ?_
        rintro e w1 ⟨x, rfl, ho, hb⟩
        have HB := Lib.hid (hb2.trans (hb.mono hb2.size))
        have hcr := HCR.out w1 HB.out
        clear ho hb hb2
        go_wp2_with (go_at_call 28; refine (HKC _).out.mono ?_; rintro e w' ⟨rfl, rfl⟩)
        refine (HCP w1 (HZ.out.below HB.out)).out.mono ?_
        rintro e w3 ⟨x3, rfl, ho3, hb3⟩
        have HO := Lib.hid ho3
        have HB3 := Lib.hid hb3
        clear ho3 hb3
        go_wp2_with fail
        go_ret3
        exact tup3 (ownI_mono HO.out HB.out.size) (HB.out.trans (HB3.out.mono HB.out.size)) E1.out E2.out E3.out
end Go.Proofs.YtmnkjjgfebfgmaaDoor
