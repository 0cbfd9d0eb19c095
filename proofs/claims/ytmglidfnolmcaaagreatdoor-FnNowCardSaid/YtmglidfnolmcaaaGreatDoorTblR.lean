/-
  Chapter 6, the model's Register and KeysIn: each answers what the plain words say, in a new row; they turn nothing that was there.
-/
import Derived.Test.YtmglidfnolmcaaaGreatDoorZa
namespace Go.Proofs.YtmglidfnolmcaaaGreatDoor
open Go.RowKit M
set_option linter.unusedVariables false
/-- A call hands back a new row that reads zs, and two numbers beside it; it turns nothing that was there. -/
def Tup3I (w : World) (zs : List Int) (a b : Int) (e : Ending) (w' : World) : Prop := ∃ v, e = .returned (.tuple #[v, .int .i64 a, .int .i64 b]) ∧ OwnI w' w.heap.size v zs ∧ Below w.heap.size w w'
theorem tup3 {w w' : World} {zs ys : List Int} {a b c d : Int} {v : Value} (ho : OwnI w' w.heap.size v zs) (hb : Below w.heap.size w w') (h1 : ys = zs) (h2 : c = a) (h3 : d = b) : Tup3I w ys c d (.returned (.tuple #[v, .int .i64 a, .int .i64 b])) w' := by
  subst h1; subst h2; subst h3; exact ⟨v, rfl, ho, hb⟩
theorem tagV_ne {s : ByteArray} {k : Int} (h : keyOkV s = true) (hk : 1 ≤ k ∧ k ≤ 3) : 1 ≤ tagV s k := by
  rw [tagV_yes h hk]; have := (unV_pack h).2; omega
theorem reg_args {zs : List Int} {key : ByteArray} {k : Int} (h : regOk zs key k = false) : regC zs key k = zs ∧ regS zs key k = -1 ∧ regD zs key k = 1 := by
  unfold regC regS regD; rw [h]; simp
theorem reg_slot {zs : List Int} {key : ByteArray} {k : Int} (h : regOk zs key k = true) (hs : 0 ≤ (findV zs key).1) : regC zs key k = zs ∧ regS zs key k = (findV zs key).1 ∧ regD zs key k = if (findV zs key).2.1 = k then 0 else 4 := by
  refine ⟨if_neg (fun x => by have := x.2.1; omega), ?_, ?_⟩
  · unfold regS; rw [if_pos h, if_pos hs]
  · unfold regD; rw [if_pos h, if_pos hs]
theorem reg_full {zs : List Int} {key : ByteArray} {k : Int} (h : regOk zs key k = true) (hs : (findV zs key).1 < 0) (hf : (findV zs key).2.2 < 0) : regC zs key k = zs ∧ regS zs key k = (findV zs key).2.2 ∧ regD zs key k = 3 := by
  refine ⟨if_neg (fun x => by have := x.2.2; omega), ?_, ?_⟩
  · unfold regS; rw [if_pos h, if_neg (by omega)]
  · unfold regD; rw [if_pos h, if_neg (by omega), if_pos hf]
theorem reg_new {zs : List Int} {key : ByteArray} {k : Int} (h : regOk zs key k = true) (hs : (findV zs key).1 < 0) (hf : 0 ≤ (findV zs key).2.2) : regC zs key k = zs.set (3 + (findV zs key).2.2).toNat (tagV key k) ∧ regS zs key k = (findV zs key).2.2 ∧ regD zs key k = 0 := by
  refine ⟨if_pos ⟨h, hs, hf⟩, ?_, ?_⟩
  · unfold regS; rw [if_pos h, if_neg (by omega)]
  · unfold regD; rw [if_pos h, if_neg (by omega), if_neg (by omega)]
set_option maxRecDepth 100000 in
set_option maxHeartbeats 1600000 in
theorem sRegister_any (w : World) (v : Value) (zs : List Int) (key : ByteArray) (k : Int) (hz : Ints w v zs) (hl : zs.length ≤ 1048576) (hs : key.size ≤ maxLen) :
    Calls Tryz.prog 111 #[v, .string key, .int .i64 k] w (Tup3I w (regC zs key k) (regS zs key k) (regD zs key k)) := by
  have HCP := Lib.hid (copy_any w v zs hz hl)
  have HOK := fun W h => Lib.hid (sOk_any W v zs h)
  have HTG := fun W => Lib.hid (sTagged_any W key k hs)
  have HZ := Lib.hid hz
  obtain ⟨b, off, cap, rfl, _, _, _, _⟩ := hz
  cases hr : regOk zs key k with
  | false =>
    obtain ⟨e1, e2, e3⟩ := reg_args hr
    have E1 := Lib.hid e1
    have E2 := Lib.hid e2
    have E3 := Lib.hid e3
    clear e1 e2 e3
    cases hc : okC zs with
    | false =>
      rw [hc] at HOK
      clear hc hr
      go_enter Tryz.func111, Tryz.ntmps111
      go_wp2_with fail
      refine HCP.out.mono ?_
      rintro e w1 ⟨x, rfl, ho, hb⟩
      have HO := Lib.hid ho
      have HB := Lib.hid hb
      clear ho hb
      go_wp2_with fail
      refine (HOK w1 (HZ.out.below HB.out)).out.mono ?_
      rintro e w' ⟨rfl, rfl⟩
      go_wp2_with fail
      go_ret3
      exact tup3 HO.out HB.out E1.out E2.out E3.out
    | true =>
      have ht : tagV key k = 0 := tagV_no (fun x => by simp [regOk, hc, x.1, x.2.1, x.2.2] at hr)
      rw [hc] at HOK
      rw [ht] at HTG
      clear hc hr ht
      go_enter Tryz.func111, Tryz.ntmps111
      go_wp2_with fail
      refine HCP.out.mono ?_
      rintro e w1 ⟨x, rfl, ho, hb⟩
      have HO := Lib.hid ho
      have HB := Lib.hid hb
      clear ho hb
      go_wp2_with fail
      refine (HOK w1 (HZ.out.below HB.out)).out.mono ?_
      rintro e w' ⟨rfl, rfl⟩
      go_wp2_with fail
      refine (HTG w1).out.mono ?_
      rintro e w2 ⟨rfl, hb2⟩
      replace HO := Lib.hid (HO.out.below hb2)
      replace HB := Lib.hid (HB.out.trans (hb2.mono HB.out.size))
      clear hb2
      go_wp2_with fail
      go_ret3
      exact tup3 HO.out HB.out E1.out E2.out E3.out
  | true =>
    have hr' := hr
    simp only [regOk, Bool.and_eq_true, decide_eq_true_eq] at hr'
    obtain ⟨hc, hk, hk13⟩ := hr'
    have htne : (tagV key k == 0) = false := by rw [beq_eq_false_iff_ne]; have := tagV_ne hk hk13; omega
    have HLEN := Lib.hid (okC_len hc)
    have HF := fun W h => Lib.hid (sFind_any W _ zs key (HZ.out.below (w' := W) h) hc hk)
    unfold find3 at HF
    obtain ⟨⟨r0, r1⟩, _, ⟨f0, f1⟩, hsf⟩ := findV_bd (zs := zs) hk
    rw [hc] at HOK
    by_cases hs0 : 0 ≤ (findV zs key).1
    · obtain ⟨e1, e2, e3⟩ := reg_slot hr hs0
      have E1 := Lib.hid e1
      have E2 := Lib.hid e2
      have hd : decide (0 ≤ (findV zs key).1) = true := by rw [decide_eq_true]; exact hs0
      by_cases ho : (findV zs key).2.1 = k
      · have E3 := Lib.hid (e3.trans (if_pos ho))
        have hne : ((findV zs key).2.1 != k) = false := by rw [ho]; simp
        clear e1 e2 e3 hr hc hk ho
        generalize tagV key k = t at *
        generalize findV zs key = r at *
        go_enter Tryz.func111, Tryz.ntmps111
        go_wp2_with fail
        refine HCP.out.mono ?_
        rintro e w1 ⟨x, rfl, ho, hb⟩
        have HO := Lib.hid ho
        have HB := Lib.hid hb
        clear ho hb
        go_wp2_with fail
        refine (HOK w1 (HZ.out.below HB.out)).out.mono ?_
        rintro e w' ⟨rfl, rfl⟩
        go_wp2_with fail
        refine (HTG w1).out.mono ?_
        rintro e w2 ⟨rfl, hb2⟩
        replace HO := Lib.hid (HO.out.below hb2)
        replace HB := Lib.hid (HB.out.trans (hb2.mono HB.out.size))
        clear hb2
        go_wp2_with fail
        refine (HF w2 HB.out).out.mono ?_
        rintro e w3 ⟨rfl, hb3⟩
        replace HO := Lib.hid (HO.out.below hb3)
        replace HB := Lib.hid (HB.out.trans (hb3.mono HB.out.size))
        clear hb3
        go_wp2_with fail
        go_ret3
        exact tup3 HO.out HB.out E1.out E2.out E3.out
      · have E3 := Lib.hid (e3.trans (if_neg ho))
        have hne : ((findV zs key).2.1 != k) = true := by rw [bne_iff_ne]; exact ho
        clear e1 e2 e3 hr hc hk ho
        generalize tagV key k = t at *
        generalize findV zs key = r at *
        go_enter Tryz.func111, Tryz.ntmps111
        go_wp2_with fail
        refine HCP.out.mono ?_
        rintro e w1 ⟨x, rfl, ho, hb⟩
        have HO := Lib.hid ho
        have HB := Lib.hid hb
        clear ho hb
        go_wp2_with fail
        refine (HOK w1 (HZ.out.below HB.out)).out.mono ?_
        rintro e w' ⟨rfl, rfl⟩
        go_wp2_with fail
        refine (HTG w1).out.mono ?_
        rintro e w2 ⟨rfl, hb2⟩
        replace HO := Lib.hid (HO.out.below hb2)
        replace HB := Lib.hid (HB.out.trans (hb2.mono HB.out.size))
        clear hb2
        go_wp2_with fail
        refine (HF w2 HB.out).out.mono ?_
        rintro e w3 ⟨rfl, hb3⟩
        replace HO := Lib.hid (HO.out.below hb3)
        replace HB := Lib.hid (HB.out.trans (hb3.mono HB.out.size))
        clear hb3
        go_wp2_with fail
        go_ret3
        exact tup3 HO.out HB.out E1.out E2.out E3.out
    · have hd : decide (0 ≤ (findV zs key).1) = false := by rw [decide_eq_false]; exact hs0
      by_cases hf : (findV zs key).2.2 < 0
      · obtain ⟨e1, e2, e3⟩ := reg_full hr (by omega) hf
        have E1 := Lib.hid e1
        have E2 := Lib.hid (show regS zs key k = -1 by rw [e2]; omega)
        have E3 := Lib.hid e3
        clear e1 e2 e3 hr hc hk
        generalize tagV key k = t at *
        generalize findV zs key = r at *
        go_enter Tryz.func111, Tryz.ntmps111
        go_wp2_with fail
        refine HCP.out.mono ?_
        rintro e w1 ⟨x, rfl, ho, hb⟩
        have HO := Lib.hid ho
        have HB := Lib.hid hb
        clear ho hb
        go_wp2_with fail
        refine (HOK w1 (HZ.out.below HB.out)).out.mono ?_
        rintro e w' ⟨rfl, rfl⟩
        go_wp2_with fail
        refine (HTG w1).out.mono ?_
        rintro e w2 ⟨rfl, hb2⟩
        replace HO := Lib.hid (HO.out.below hb2)
        replace HB := Lib.hid (HB.out.trans (hb2.mono HB.out.size))
        clear hb2
        go_wp2_with fail
        refine (HF w2 HB.out).out.mono ?_
        rintro e w3 ⟨rfl, hb3⟩
        replace HO := Lib.hid (HO.out.below hb3)
        replace HB := Lib.hid (HB.out.trans (hb3.mono HB.out.size))
        clear hb3
        go_wp2_with fail
        go_ret3
        exact tup3 HO.out HB.out E1.out E2.out E3.out
      · obtain ⟨e1, e2, e3⟩ := reg_new hr (by omega) (by omega)
        have E1 := Lib.hid e1
        have E2 := Lib.hid e2
        have E3 := Lib.hid e3
        have HKC := fun W => Lib.hid (sKey_any (findV zs key).2.2 W)
        rw [keyV_yes ⟨by omega, by omega⟩] at HKC
        clear e1 e2 e3 hr hc hk
        generalize tagV key k = t at *
        generalize findV zs key = r at *
        obtain ⟨fs, fk, ff⟩ := r
        simp only at *
        obtain ⟨m, rfl⟩ := Int.eq_ofNat_of_zero_le (show 0 ≤ ff by omega)
        have hm : m ≤ 3 := by omega
        have hm71 : 3 + m < zs.length := by have := HLEN.out; omega
        rw [show (3 + (m : Int)).toNat = 3 + m by omega] at E1
        go_enter Tryz.func111, Tryz.ntmps111
        go_wp2_with fail
        refine HCP.out.mono ?_
        rintro e w1 ⟨x, rfl, ho, hb⟩
        have HO := Lib.hid ho
        have HB := Lib.hid hb
        clear ho hb
        go_wp2_with fail
        refine (HOK w1 (HZ.out.below HB.out)).out.mono ?_
        rintro e w' ⟨rfl, rfl⟩
        go_wp2_with fail
        refine (HTG w1).out.mono ?_
        rintro e w2 ⟨rfl, hb2⟩
        replace HO := Lib.hid (HO.out.below hb2)
        replace HB := Lib.hid (HB.out.trans (hb2.mono HB.out.size))
        clear hb2
        go_wp2_with fail
        refine (HF w2 HB.out).out.mono ?_
        rintro e w3 ⟨rfl, hb3⟩
        replace HO := Lib.hid (HO.out.below hb3)
        replace HB := Lib.hid (HB.out.trans (hb3.mono HB.out.size))
        clear hb3
        go_wp2_with fail
        obtain ⟨g, cp, rfl⟩ := HO.out.2
        refine ((HKC w3).out).mono ?_
        rintro e w' ⟨rfl, rfl⟩
        go_wp2_with fail
        refine ((HTG w3).out).mono ?_
        rintro e w4 ⟨rfl, hb4⟩
        have ho4 := HO.out.below hb4
        have hB4 := HB.out.trans (hb4.mono HB.out.size)
        have hfz := ho4.frz (3 + m)
        obtain ⟨z, hzc⟩ : ∃ z, w4.cell? ⟨g, 3 + m, none⟩ = some z := ⟨_, ho4.cell (3 + m) hm71⟩
        have HS := Lib.hid (own_set ho4 (3 + m) t hB4 hB4.size)
        clear ho4 hB4 hb4
        have hm71' : 3 + (m : Int) < (zs.length : Int) := by omega
        have hlc : zs.length ≤ 9223372036854775807 := by omega
        go_wp2_with fail
        go_ret3
        exact tup3 HS.out.1 HS.out.2 E1.out E2.out E3.out
set_option maxRecDepth 100000 in
set_option maxHeartbeats 1600000 in
theorem sKeysIn_any (w : World) (v : Value) (zs : List Int) (hz : Ints w v zs) : Calls Tryz.prog 18 #[v] w (MadeT w (keysV zs)) := by
  have HC := fun W h => Lib.hid (sOk_any W v zs h)
  have HZ := Lib.hid hz
  cases hc : okC zs with
  | false =>
    obtain ⟨b, off, cap, rfl, _, _, _, _⟩ := hz
    have E := Lib.hid (show keysV zs = [] from if_neg (by rw [hc]; simp))
    rw [hc] at HC
    clear hc
    go_enter Tryz.func18, Tryz.ntmps18
    go_wp2_with fail
    go_loopw [3, 4] (fun u x wr => x = .int .i64 0 ∧ OwnT wr w.heap.size u [] ∧ Below w.heap.size w wr) (fun _ x _ => 4 - (intOf x).toNat)
    case atStart => exact ⟨rfl, OwnT.empty w _ (Nat.le_refl _), (Below.refl _ _).alloc (Nat.le_refl _) _⟩
    case round =>
      obtain ⟨rfl, ho, hb⟩ := hrel
      have HO := Lib.hid ho
      have HB := Lib.hid hb
      clear ho hb
      go_wp2_with fail
      refine (HC wr (HZ.out.below HB.out)).out.mono ?_
      rintro e w' ⟨rfl, rfl⟩
      go_wp2_with fail
      go_ret
      exact ⟨_, rfl, by rw [E.out]; exact HO.out, HB.out⟩
  | true =>
    have hl := okC_len hc
    have HCC := Lib.hid hc
    rw [hc] at HC
    obtain ⟨b, off, cap, rfl, hcl, hcm, _, _⟩ := hz
    rw [hl] at *
    clear hc
    go_enter Tryz.func18, Tryz.ntmps18
    go_wp2_with fail
    go_loopw [3, 4] (fun u x wr => ∃ s : Nat, s ≤ 4 ∧ x = .int .i64 s ∧ OwnT wr w.heap.size u (keysT zs s) ∧ Below w.heap.size w wr) (fun _ x _ => 4 - (intOf x).toNat)
    case atStart => exact ⟨0, Nat.zero_le _, rfl, OwnT.empty w _ (Nat.le_refl _), (Below.refl _ _).alloc (Nat.le_refl _) _⟩
    case round =>
      obtain ⟨s, hs, rfl, ho, hb⟩ := hrel
      have HO := Lib.hid ho
      have HB := Lib.hid hb
      have hlen := keysT_len zs s
      clear ho hb
      by_cases hlt : s < 4
      · have hlt2 : decide ((s : Int) < 4) = true := by rw [decide_eq_true]; omega
        have HKC := fun W => Lib.hid (sKey_any (s : Int) W)
        rw [keyV_yes ⟨by omega, by omega⟩] at HKC
        have hp71 : 3 + (s : Int) < 71 := by omega
        have hcr : wr.cell? ⟨b, off + (3 + s), none⟩ = some (.int .i64 (cellK zs s)) := by
          obtain ⟨b', off', cap', e, _, _, _, h4⟩ := HZ.out.below HB.out
          injection e with e1 _ _
          injection e1 with e1
          injection e1 with e1 e2 _
          subst e1; subst e2
          have := cellK_at (s := (s : Int)) h4 (okC_len HCC.out) (by omega) (by omega)
          rwa [show (3 + (s : Int)).toNat = 3 + s by omega] at this
        have HU := fun W => Lib.hid (sUntag_any W (cellK zs s))
        cases hu : untagV (cellK zs (s : Nat)) with
        | none =>
          have HN := Lib.hid (keysT_none hu)
          rw [hu, untT_none] at HU
          clear hu
          generalize cellK zs s = x at *
          go_wp2_with (first | (go_at_call 36; refine (HC wr (HZ.out.below HB.out)).out.mono ?_; rintro e w' ⟨rfl, rfl⟩) | (go_at_call 46; refine (HKC _).out.mono ?_; rintro e w' ⟨rfl, rfl⟩))
          refine (HU wr).out.mono ?_
          rintro e w2 ⟨rfl, hb2⟩
          go_wp2_with fail
          go_roundw
          case rel => exact ⟨s + 1, by omega, by go_num, by rw [HN.out]; exact HO.out.below hb2, HB.out.trans (hb2.mono HB.out.size)⟩
          case measure => simp [intOf]; omega
        | some u =>
          obtain ⟨k, kd⟩ := u
          obtain ⟨_, _, hk1, _⟩ := tag_untag hu
          have hkd : (kd != 0) = true := by rw [bne_iff_ne]; omega
          have HN := Lib.hid (keysT_some hu)
          rw [hu, untT_some] at HU
          clear hu
          generalize cellK zs s = x at *
          go_wp2_with (first | (go_at_call 36; refine (HC wr (HZ.out.below HB.out)).out.mono ?_; rintro e w' ⟨rfl, rfl⟩) | (go_at_call 46; refine (HKC _).out.mono ?_; rintro e w' ⟨rfl, rfl⟩))
          refine (HU wr).out.mono ?_
          rintro e w2 ⟨rfl, hb2⟩
          have HO2 := Lib.hid (HO.out.below hb2)
          have HB2 := Lib.hid (HB.out.trans (hb2.mono HB.out.size))
          clear hb2
          go_wp2_with (at_builtin; refine wpT_append w2 rfl _ _ rfl w.heap.size _ _ HO2.out rfl k rfl ?c1 ?c2 ?_; rotate_left 2; intro v' w3 hown' hgrow'; have HO3 := Lib.hid hown'; have HG := Lib.hid hgrow'; clear hown' hgrow')
          · go_roundw
            case rel => exact ⟨s + 1, by omega, by go_num, by rw [HN.out]; exact HO3.out, (HB2.out.alloc HB2.out.size _).grown HG.out (by simp [go_sem]; have := HB2.out.size; omega) HO2.out.base_le⟩
            case measure => simp [intOf]; omega
          case c1 => omega
          case c2 => exact HB2.out.size
      · have hge : decide ((s : Int) < 4) = false := by simp; omega
        have E := Lib.hid (show keysV zs = keysT zs s by rw [show s = 4 by omega]; exact if_pos HCC.out)
        go_wp2
        go_ret
        exact ⟨_, rfl, by rw [E.out]; exact HO.out, HB.out⟩
end Go.Proofs.YtmglidfnolmcaaaGreatDoor
