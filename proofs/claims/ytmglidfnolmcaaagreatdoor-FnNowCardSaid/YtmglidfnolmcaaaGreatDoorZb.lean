/-
  Several small texts of this proof, one behind another: each says ahead of itself what it proves.
-/
import Derived.Test.YtmglidfnolmcaaaGreatDoorZa
import Derived.Test.YtmglidfnolmcaaaGreatDoorKeyI
import Derived.Test.YtmglidfnolmcaaaGreatDoorNowS
import Derived.Test.YtmglidfnolmcaaaGreatDoorTblR
import Derived.Deep.QuietTactic
import Derived.BigQuiet
import Derived.OwnWalk
import Derived.ChangeOld
import Derived.Test.YtmglidfnolmcaaaGreatDoorRowM
import Derived.Test.YtmglidfnolmcaaaGreatDoorRowO
import Derived.ProofKit
import Derived.OpenShut
import Derived.BigGuardPart
import Derived.Deep.RegionHeld3
import Derived.Deep.RegionWith
import Derived.Deep.CutRange
import Derived.Test.YtmglidfnolmcaaaGreatDoorRows
import Derived.WalkKit
import Derived.Deep.DeepHandedRow
import Derived.Deep.DeepWitnessRowRef
import Derived.LaidLaws
import Derived.LaidSub
import Derived.MakeChecks
import Derived.KernelRfl
/-
  Chapter 5, the program's functions: each answers what the plain words say. They turn nothing that was there.
-/
namespace Go.Proofs.YtmglidfnolmcaaaGreatDoor
open Go.RowKit M
set_option linter.unusedVariables false
theorem isKind_yes (k : Int) (w : World) (h0 : 1 ≤ k) (h1 : k ≤ 3) : Calls Tryz.prog 96 #[.int .i64 k] w (Same w (.bool true)) := by
  go_enter Tryz.func96, Tryz.ntmps96
  go_wp2
  go_ret
  exact ⟨rfl, rfl⟩
theorem isKind_no (k : Int) (w : World) (h : ¬ (1 ≤ k ∧ k ≤ 3)) : Calls Tryz.prog 96 #[.int .i64 k] w (Same w (.bool false)) := by
  by_cases h0 : 1 ≤ k
  · have h1 : decide (k ≤ 3) = false := by rw [decide_eq_false]; omega
    go_enter Tryz.func96, Tryz.ntmps96
    go_wp2
    go_ret
    exact ⟨rfl, rfl⟩
  · have h1 : decide (1 ≤ k) = false := by rw [decide_eq_false]; omega
    go_enter Tryz.func96, Tryz.ntmps96
    go_wp2
    go_ret
    exact ⟨rfl, rfl⟩
theorem isValue_yes (k : Int) (w : World) (h0 : 0 ≤ k) (h1 : k ≤ 65535) : Calls Tryz.prog 27 #[.int .i64 k] w (Same w (.bool true)) := by
  go_enter Tryz.func27, Tryz.ntmps27
  go_wp2
  go_ret
  exact ⟨rfl, rfl⟩
theorem isValue_no (k : Int) (w : World) (h : ¬ (0 ≤ k ∧ k ≤ 65535)) : Calls Tryz.prog 27 #[.int .i64 k] w (Same w (.bool false)) := by
  by_cases h0 : 0 ≤ k
  · have h1 : decide (k ≤ 65535) = false := by rw [decide_eq_false]; omega
    go_enter Tryz.func27, Tryz.ntmps27
    go_wp2
    go_ret
    exact ⟨rfl, rfl⟩
  · have h1 : decide (0 ≤ k) = false := by rw [decide_eq_false]; omega
    go_enter Tryz.func27, Tryz.ntmps27
    go_wp2
    go_ret
    exact ⟨rfl, rfl⟩
theorem isStamp_yes (k : Int) (w : World) (h0 : 1 ≤ k) (h1 : k ≤ 65535) : Calls Tryz.prog 98 #[.int .i64 k] w (Same w (.bool true)) := by
  go_enter Tryz.func98, Tryz.ntmps98
  go_wp2
  go_ret
  exact ⟨rfl, rfl⟩
theorem isStamp_no (k : Int) (w : World) (h : ¬ (1 ≤ k ∧ k ≤ 65535)) : Calls Tryz.prog 98 #[.int .i64 k] w (Same w (.bool false)) := by
  by_cases h0 : 1 ≤ k
  · have h1 : decide (k ≤ 65535) = false := by rw [decide_eq_false]; omega
    go_enter Tryz.func98, Tryz.ntmps98
    go_wp2
    go_ret
    exact ⟨rfl, rfl⟩
  · have h1 : decide (1 ≤ k) = false := by rw [decide_eq_false]; omega
    go_enter Tryz.func98, Tryz.ntmps98
    go_wp2
    go_ret
    exact ⟨rfl, rfl⟩
theorem iPackGauge_same (w : World) (a v : Int) : Calls Tryz.prog 72 #[.int .i64 a, .int .i64 v] w (Same w (.int .i64 (gaugeV a v))) := by
  by_cases ha : 1 ≤ a ∧ a ≤ 65535
  · by_cases hv : 0 ≤ v ∧ v ≤ 65535
    · have E := Lib.hid (gaugeV_yes ⟨ha, hv⟩)
      obtain ⟨a1, a2⟩ := ha
      obtain ⟨v1, v2⟩ := hv
      go_enter Tryz.func72, Tryz.ntmps72
      go_wp2_with (first | (go_at_call 98; refine (isStamp_yes _ _ (by omega) (by omega)).mono ?_; rintro e w' ⟨rfl, rfl⟩) | (go_at_call 27; refine (isValue_yes _ _ (by omega) (by omega)).mono ?_; rintro e w' ⟨rfl, rfl⟩))
      go_ret
      exact ⟨ret_i (by rw [E.out]; omega), rfl⟩
    · have E := Lib.hid (gaugeV_no (a := a) (fun h => hv h.2))
      go_enter Tryz.func72, Tryz.ntmps72
      go_wp2_with (first | (go_at_call 98; refine (isStamp_yes _ _ ha.1 ha.2).mono ?_; rintro e w' ⟨rfl, rfl⟩) | (go_at_call 27; refine (isValue_no _ _ hv).mono ?_; rintro e w' ⟨rfl, rfl⟩))
      go_ret
      exact ⟨ret_i E.out.symm, rfl⟩
  · have E := Lib.hid (gaugeV_no (v := v) (fun h => ha h.1))
    go_enter Tryz.func72, Tryz.ntmps72
    go_wp2_with (go_at_call 98; refine (isStamp_no _ _ ha).mono ?_; rintro e w' ⟨rfl, rfl⟩)
    go_ret
    exact ⟨ret_i E.out.symm, rfl⟩
theorem iUnpackGauge_same (w : World) (n : Int) (h0 : -9223372036854775808 ≤ n) (h1 : n ≤ 9223372036854775807) :
    Calls Tryz.prog 71 #[.int .i64 n] w (Same w (.tuple #[.int .i64 (ungA n), .int .i64 (ungV n)])) := by
  by_cases hn : 0 ≤ n
  · by_cases h : 65536 ≤ n ∧ n ≤ 4294967295
    · have E := Lib.hid (show ungA n = n / 65536 from if_pos h)
      have E2 := Lib.hid (show ungV n = n % 65536 from if_pos h)
      have d1 : 1 ≤ n / 65536 := by omega
      have d2 : n / 65536 ≤ 65535 := by omega
      go_enter Tryz.func71, Tryz.ntmps71
      go_wp2_with (go_at_call 98; refine (isStamp_yes _ _ d1 d2).mono ?_; rintro e w' ⟨rfl, rfl⟩)
      go_ret2
      exact ⟨ret_ii E.out.symm E2.out.symm, rfl⟩
    · have E := Lib.hid (show ungA n = 0 from if_neg h)
      have E2 := Lib.hid (show ungV n = 0 from if_neg h)
      have d : ¬ (1 ≤ n / 65536 ∧ n / 65536 ≤ 65535) := by omega
      go_enter Tryz.func71, Tryz.ntmps71
      go_wp2_with (go_at_call 98; refine (isStamp_no _ _ d).mono ?_; rintro e w' ⟨rfl, rfl⟩)
      go_ret2
      exact ⟨ret_ii E.out.symm E2.out.symm, rfl⟩
  · have E := Lib.hid (show ungA n = 0 from if_neg (by omega))
    have E2 := Lib.hid (show ungV n = 0 from if_neg (by omega))
    have hq : n.tdiv 65536 ≤ 0 := by
      have := Int.tdiv_nonneg (a := -n) (b := 65536) (by omega) (by omega)
      rw [Int.neg_tdiv] at this; omega
    have d : ¬ (1 ≤ n.tdiv 65536 ∧ n.tdiv 65536 ≤ 65535) := by omega
    clear hq
    go_enter Tryz.func71, Tryz.ntmps71
    go_wp2_with (go_at_call 98; refine (isStamp_no _ _ d).mono ?_; rintro e w' ⟨rfl, rfl⟩)
    go_ret2
    exact ⟨ret_ii E.out.symm E2.out.symm, rfl⟩
theorem iPackGauge_any (w : World) (a v : Int) (h0 : -9223372036854775808 ≤ a) (h1 : a ≤ 9223372036854775807) (h2 : -9223372036854775808 ≤ v) (h3 : v ≤ 9223372036854775807) : Calls Tryz.prog 72 #[.int .i64 a, .int .i64 v] w (Gives (.int .i64 (gaugeV a v)) w) := same_gives (iPackGauge_same w a v)
theorem iUnpackGauge_any (w : World) (n : Int) (h0 : -9223372036854775808 ≤ n) (h1 : n ≤ 9223372036854775807) : Calls Tryz.prog 71 #[.int .i64 n] w (Gives (.tuple #[.int .i64 (ungA n), .int .i64 (ungV n)]) w) := same_gives (iUnpackGauge_same w n h0 h1)
end Go.Proofs.YtmglidfnolmcaaaGreatDoor
/-
  Chapter 4, the program's UnpackKey: the key that a number has, or none. It makes new memory and turns none that was there.
-/
namespace Go.Proofs.YtmglidfnolmcaaaGreatDoor
open Go.RowKit M
set_option linter.unusedVariables false
/-- The four bytes of a number; none where it has more, or is negative. -/
def four (n : Int) : ByteArray := if 0 ≤ n ∧ n ≤ 4294967295 then fxs n.toNat 4 else ⟨#[]⟩
theorem iFx4 (n : Int) (w : World) (h0 : -9223372036854775808 ≤ n) (h1 : n ≤ 9223372036854775807) :
    Calls Tryz.prog 115 #[.int .i64 n, .int .i64 4] w (Gives (.string (four n)) w) := by
  by_cases h : 0 ≤ n
  · obtain ⟨m, rfl⟩ := Int.eq_ofNat_of_zero_le h
    by_cases k : 256 ^ 4 ≤ m
    · have e : four (m : Int) = ⟨#[]⟩ := if_neg (by omega)
      rw [e]
      exact (iFx_big m 4 w (by omega) (by decide) (by decide) k).mono fun _ _ q => gives_same q
    · have e : four (m : Int) = fxs m 4 := if_pos (by omega)
      rw [e]
      exact (iFx_good m 4 w (by omega) (by decide) (by decide) k).mono fun _ _ q => q
  · have e : four n = ⟨#[]⟩ := if_neg (by omega)
    rw [e]
    exact (iFx_bad n 4 w (by omega)).mono fun _ _ q => gives_same q
theorem u8_zero (m : Nat) : (UInt8.ofNat m == 0) = decide (m % 256 = 0) := by
  by_cases h : m % 256 = 0
  · rw [decide_eq_true h, beq_iff_eq]
    apply UInt8.toNat_inj.1
    simpa using h
  · rw [decide_eq_false h, beq_eq_false_iff_ne]
    intro e
    apply h
    have := congrArg UInt8.toNat e
    simpa using this
theorem trim_fx {n : Nat} (h : n ≤ 4294967295) : Lib.trimLeftB (fx n 4) 0 = fx n (nbV n) := by
  have hd : n / 256 ^ 3 = n / 16777216 ∧ n / 256 ^ 2 = n / 65536 ∧ n / 256 ^ 1 = n / 256 ∧ n / 256 ^ 0 = n := ⟨rfl, rfl, rfl, by simp⟩
  by_cases h0 : n = 0
  · subst h0; decide
  · by_cases h1 : n < 256
    · rw [nb_1 (by omega)]
      have a3 : decide (dv n 3 % 256 = 0) = true := decide_eq_true (by unfold dv; omega)
      have a2 : decide (dv n 2 % 256 = 0) = true := decide_eq_true (by unfold dv; omega)
      have a1 : decide (dv n 1 % 256 = 0) = true := decide_eq_true (by unfold dv; omega)
      have a0 : decide (dv n 0 % 256 = 0) = false := decide_eq_false (by unfold dv; omega)
      simp [fx, Lib.trimLeftB, List.dropWhile, u8_zero, a3, a2, a1, a0, -decide_eq_true_eq, -decide_eq_false_iff_not]
    · by_cases h2 : n < 65536
      · rw [nb_2 (by omega)]
        have a3 : decide (dv n 3 % 256 = 0) = true := decide_eq_true (by unfold dv; omega)
        have a2 : decide (dv n 2 % 256 = 0) = true := decide_eq_true (by unfold dv; omega)
        have a1 : decide (dv n 1 % 256 = 0) = false := decide_eq_false (by unfold dv; omega)
        simp [fx, Lib.trimLeftB, List.dropWhile, u8_zero, a3, a2, a1, -decide_eq_true_eq, -decide_eq_false_iff_not]
      · by_cases h3 : n < 16777216
        · rw [nb_3 (by omega)]
          have a3 : decide (dv n 3 % 256 = 0) = true := decide_eq_true (by unfold dv; omega)
          have a2 : decide (dv n 2 % 256 = 0) = false := decide_eq_false (by unfold dv; omega)
          simp [fx, Lib.trimLeftB, List.dropWhile, u8_zero, a3, a2, -decide_eq_true_eq, -decide_eq_false_iff_not]
        · rw [nb_4 (by omega)]
          have a3 : decide (dv n 3 % 256 = 0) = false := decide_eq_false (by unfold dv; omega)
          simp [fx, Lib.trimLeftB, u8_zero, a3, -decide_eq_true_eq, -decide_eq_false_iff_not]
/-- What stands behind the zeros. -/
def bare (n : Int) : ByteArray := ⟨(Lib.trimLeftB (four n).data.toList 0).toArray⟩
theorem bare_in {n : Int} (h : 0 ≤ n ∧ n ≤ 4294967295) : bare n = unb n.toNat := by
  have e : four n = fxs n.toNat 4 := if_pos h
  have t := trim_fx (n := n.toNat) (by omega)
  unfold bare
  rw [e, show (fxs n.toNat 4).data.toList = fx n.toNat 4 from rfl, t]
  rfl
theorem bare_out {n : Int} (h : ¬ (0 ≤ n ∧ n ≤ 4294967295)) : bare n = ⟨#[]⟩ := by
  have e : four n = ⟨#[]⟩ := if_neg h
  unfold bare; rw [e]; rfl
theorem bare_size (n : Int) : (bare n).size ≤ 4 := by
  by_cases h : 0 ≤ n ∧ n ≤ 4294967295
  · rw [bare_in h, unb_size]; exact nbV_le _
  · rw [bare_out h]; exact Nat.zero_le _
theorem key_empty : keyOkV ⟨#[]⟩ = false := by decide
theorem unV_bare (n : Int) : unV n = if keyOkV (bare n) = true then some (bare n) else none := by
  by_cases h : 1 ≤ n ∧ n ≤ 4294967295
  · rw [bare_in (by omega)]; exact if_pos h
  · have e : unV n = none := if_neg h
    by_cases h' : 0 ≤ n ∧ n ≤ 4294967295
    · obtain rfl : n = 0 := by omega
      rw [e, bare_in h']
      rfl
    · rw [e, bare_out h', key_empty]; rfl
set_option maxRecDepth 100000 in
theorem iUnpack_any (w : World) (n : Int) (h0 : -9223372036854775808 ≤ n) (h1 : n ≤ 9223372036854775807) :
    Calls Tryz.prog 95 #[.int .i64 n] w (Gives (unT (unV n)) w) := by
  have HF := Lib.hid (iFx4 n w h0 h1)
  have HT := fun W => Lib.hid (Tryz.strings_TrimLeft_one (four n) 0 (by decide) W)
  have hs : (bare n).size ≤ maxLen := by have := bare_size n; unfold maxLen; omega
  have HK := fun W => Lib.hid (iKeyOk_same W (bare n) hs)
  have E := Lib.hid (unV_bare n)
  have HB := Lib.hid (show (⟨(Lib.trimLeftB (four n).data.toList 0).toArray⟩ : ByteArray) = bare n from rfl)
  rw [HB.out] at HT
  clear HB hs
  generalize bare n = s at *
  generalize four n = f at *
  cases hk : keyOkV s with
  | false =>
    rw [hk] at HK
    rw [if_neg (by rw [hk]; simp)] at E
    clear hk
    go_enter Tryz.func95, Tryz.ntmps95
    go_wp2_with fail
    refine HF.out.mono ?_
    rintro e w1 ⟨rfl, hb1⟩
    go_wp2_with fail
    refine (HT w1).out.mono ?_
    rintro e w2 ⟨rfl, rfl⟩
    go_wp2_with fail
    refine (HK _).out.mono ?_
    rintro e w3 ⟨rfl, rfl⟩
    go_wp2_with fail
    go_ret2
    exact ⟨by rw [E.out]; rfl, hb1⟩
  | true =>
    rw [hk] at HK
    rw [if_pos hk] at E
    clear hk
    go_enter Tryz.func95, Tryz.ntmps95
    go_wp2_with fail
    refine HF.out.mono ?_
    rintro e w1 ⟨rfl, hb1⟩
    go_wp2_with fail
    refine (HT w1).out.mono ?_
    rintro e w2 ⟨rfl, rfl⟩
    go_wp2_with fail
    refine (HK _).out.mono ?_
    rintro e w3 ⟨rfl, rfl⟩
    go_wp2_with fail
    go_ret2
    exact ⟨by rw [E.out]; rfl, hb1⟩
end Go.Proofs.YtmglidfnolmcaaaGreatDoor
/-
  Chapter 5, the program's Untag: the key and the kind of a number, or none. It makes new memory and turns none that was there.
-/
namespace Go.Proofs.YtmglidfnolmcaaaGreatDoor
open Go.RowKit M
set_option linter.unusedVariables false
theorem untagV_pos {n : Int} (h : 0 ≤ n) : untagV n = (match unV (n / 4) with | some s => if 1 ≤ n % 4 then some (s, n % 4) else none | none => none) := by
  by_cases hn : 1 ≤ n ∧ n ≤ 17179869183
  · exact if_pos hn
  · have e : unV (n / 4) = none := if_neg (by omega)
    rw [e]
    exact if_neg hn
theorem unV_low {n : Int} (h : n ≤ 0) : unV n = none := if_neg (by omega)
set_option maxRecDepth 100000 in
theorem iUntag_any (w : World) (n : Int) (h0 : -9223372036854775808 ≤ n) (h1 : n ≤ 9223372036854775807) :
    Calls Tryz.prog 65 #[.int .i64 n] w (Gives (untT (untagV n)) w) := by
  by_cases hn : 0 ≤ n
  · have E := untagV_pos hn
    have HU := Lib.hid (iUnpack_any w (n / 4) (by omega) (by omega))
    have m0 : 0 ≤ n % 4 := by omega
    have m3 : n % 4 ≤ 3 := by omega
    cases hu : unV (n / 4) with
    | none =>
      rw [hu] at E
      rw [hu, unT_none] at HU
      have HE := Lib.hid E
      clear hu E
      go_enter Tryz.func65, Tryz.ntmps65
      go_wp2_with (go_at_call 95; refine HU.out.mono ?_; rintro e w2 ⟨rfl, hb⟩)
      go_ret2
      exact ⟨by rw [HE.out]; rfl, hb⟩
    | some s =>
      rw [hu] at E
      rw [hu, unT_some] at HU
      simp only at E
      by_cases hr : 1 ≤ n % 4
      · rw [if_pos hr] at E
        have HE := Lib.hid E
        clear hu E
        go_enter Tryz.func65, Tryz.ntmps65
        go_wp2_with (first | (go_at_call 95; refine HU.out.mono ?_; rintro e w2 ⟨rfl, hb⟩) | (go_at_call 96; refine (isKind_yes _ _ (by omega) (by omega)).mono ?_; rintro e w' ⟨rfl, rfl⟩))
        go_ret2
        exact ⟨by rw [HE.out]; rfl, hb⟩
      · rw [if_neg hr] at E
        have HE := Lib.hid E
        clear hu E
        go_enter Tryz.func65, Tryz.ntmps65
        go_wp2_with (first | (go_at_call 95; refine HU.out.mono ?_; rintro e w2 ⟨rfl, hb⟩) | (go_at_call 96; refine (isKind_no _ _ (by omega)).mono ?_; rintro e w' ⟨rfl, rfl⟩))
        go_ret2
        exact ⟨by rw [HE.out]; rfl, hb⟩
  · have E := Lib.hid (show untagV n = none from if_neg (by omega))
    have hq : n.tdiv 4 ≤ 0 := by
      have := Int.tdiv_nonneg (a := -n) (b := 4) (by omega) (by omega)
      rw [Int.neg_tdiv] at this; omega
    have hq2 : -9223372036854775808 ≤ n.tdiv 4 := by
      have : (-n).tdiv 4 = (-n) / 4 := Int.tdiv_eq_ediv_of_nonneg (by omega)
      rw [Int.neg_tdiv] at this; omega
    have HU := Lib.hid (iUnpack_any w (n.tdiv 4) hq2 (by omega))
    rw [unV_low hq, unT_none] at HU
    clear hq
    go_enter Tryz.func65, Tryz.ntmps65
    go_wp2_with (go_at_call 95; refine HU.out.mono ?_; rintro e w2 ⟨rfl, hb⟩)
    go_ret2
    exact ⟨by rw [E.out]; rfl, hb⟩
end Go.Proofs.YtmglidfnolmcaaaGreatDoor
/-
  Chapters 8 and 9 in plain words, once more: what clearing, recording and flushing leave as it was, and what they make.
-/
namespace Go.Proofs.YtmglidfnolmcaaaGreatDoor
open Go.RowKit M
set_option linter.unusedVariables false
theorem getD_set_ne {l : List Int} {i j : Nat} (x : Int) (h : i ≠ j) : (l.set i x).getD j 0 = l.getD j 0 := by simp [List.getD_eq_getElem?_getD, List.getElem?_set_ne h]
theorem getD_set_eq {l : List Int} {i : Nat} (x : Int) (h : i < l.length) : (l.set i x).getD i 0 = x := by simp [List.getD_eq_getElem?_getD, h]
theorem isW_modW (x : Int) : isW (modW x) = true := isW_iff.2 (by unfold modW; omega)
theorem isW_small {x : Int} (h : 0 ≤ x ∧ x ≤ 4294967295) : isW x = true := isW_iff.2 (by omega)
theorem isW_gauge (a v : Int) : isW (gaugeV a v) = true := isW_iff.2 (by unfold gaugeV; split <;> omega)
theorem slotRaw_congr {x y : List Int} {b s : Int} (hx : x.length = 71) (hy : y.length = 71) (hb : 0 ≤ b ∧ b ≤ 1) (hs : 0 ≤ s ∧ s ≤ 3) (h : ∀ j : Nat, j < 8 → x.getD ((7 + b * 32 + s * 8).toNat + j) 0 = y.getD ((7 + b * 32 + s * 8).toNat + j) 0) : slotRaw x b s = slotRaw y b s := by
  refine list_getD_ext (by rw [slotRaw_len hx hb hs, slotRaw_len hy hb hs]) fun j hj => ?_
  rw [slotRaw_len hx hb hs] at hj
  rw [slotRaw_at hx hb hs j hj, slotRaw_at hy hb hs j hj, h j hj]
theorem rowInV_congr {x y : List Int} {b s : Int} (hx : okC x = true) (hy : okC y = true) (hb : 0 ≤ b ∧ b ≤ 1) (hs : 0 ≤ s ∧ s ≤ 3) (hk : x.getD (3 + s).toNat 0 = y.getD (3 + s).toNat 0)
    (h : ∀ j : Nat, j < 8 → x.getD ((7 + b * 32 + s * 8).toNat + j) 0 = y.getD ((7 + b * 32 + s * 8).toNat + j) 0) : rowInV x b s = rowInV y b s := by
  unfold rowInV
  rw [if_pos ⟨hx, bufOk_iff.2 hb, slotOk_iff.2 hs⟩, if_pos ⟨hy, bufOk_iff.2 hb, slotOk_iff.2 hs⟩, slotRaw_congr (okC_len hx) (okC_len hy) hb hs h]
  unfold cellK; rw [hk]
theorem clearT_ok {a : List Int} (b : Int) (h : okC a = true) (n : Nat) : okC (clearT a b n) = true := by
  induction n with
  | zero => exact h
  | succ n ih => rw [clearT_succ]; exact okC_set ih _ 0 rfl
theorem clearV_ok {a : List Int} {b : Int} (h : okC a = true) (hb : 0 ≤ b ∧ b ≤ 1) : okC (clearV a b) = true := by rw [clearV_yes h hb]; exact clearT_ok b h 32
theorem clearV_get {a : List Int} {b : Int} (h : okC a = true) (hb : 0 ≤ b ∧ b ≤ 1) (j : Nat) : (clearV a b).getD j 0 = if 7 + b * 32 ≤ (j : Int) ∧ (j : Int) < 39 + b * 32 then 0 else a.getD j 0 := by
  rw [clearV_yes h hb, clearT_get hb 32 (Nat.le_refl _) j]
  by_cases hin : 7 + b * 32 ≤ (j : Int) ∧ (j : Int) < 39 + b * 32
  · rw [if_pos hin, if_pos (by omega)]
  · rw [if_neg hin, if_neg (by omega)]
theorem bufClear_of {a : List Int} {b : Int} (h : okC a = true) (hb : 0 ≤ b ∧ b ≤ 1) (hz : ∀ j : Nat, 7 + b * 32 ≤ (j : Int) → (j : Int) < 39 + b * 32 → a.getD j 0 = 0) : bufClearV a b = true := by
  unfold bufClearV
  rw [h, bufOk_iff.2 hb]
  simp only [Bool.true_and, List.all_eq_true, List.mem_range, decide_eq_true_eq]
  intro i hi
  exact hz _ (by omega) (by omega)
theorem bufClear_clear {a : List Int} {b : Int} (h : okC a = true) (hb : 0 ≤ b ∧ b ≤ 1) : bufClearV (clearV a b) b = true :=
  bufClear_of (clearV_ok h hb) hb fun j h0 h1 => by rw [clearV_get h hb, if_pos ⟨h0, h1⟩]
/-- A slot whose cells are all zero has a quiet row, or none. -/
theorem row_quiet (tag : Int) {raw : List Int} (hz : ∀ j : Nat, raw.getD j 0 = 0) : (rowFromV tag raw).kind = 0 ∨ quietV (rowFromV tag raw) = true := by
  unfold rowFromV
  split
  · rename_i key kind hu
    split
    · right
      unfold kindRow
      split
      · simp only [countRow, quietV, sumT, hz]; decide
      · split
        · simp only [gaugeRow, quietV, hz]; decide
        · have e : ringV { zeroR with key := key, kind := 3 } raw 3 = { zeroR with key := key, kind := 3 } := by
            simp only [ringV, hz]; rfl
          unfold timerRow; rw [e, hz]; rfl
    · exact Or.inl rfl
  · exact Or.inl rfl
theorem addV_quiet {l : List R} {r : R} (h : r.kind = 0 ∨ quietV r = true) : addV l r = l := addV_no fun x => by
  rcases h with h | h
  · exact x.1 h
  · rw [x.2] at h; cases h
theorem reportT_none {a : List Int} {b : Int} (h : ∀ s : Nat, s < 4 → (rowInV a b s).kind = 0 ∨ quietV (rowInV a b s) = true) (n : Nat) (hn : n ≤ 4) : reportT a b n = [] := by
  induction n with
  | zero => rfl
  | succ n ih => rw [reportT_succ, ih (by omega), addV_quiet (h n (by omega))]
theorem reportT_congr {x y : List Int} {b c : Int} (h : ∀ s : Nat, s < 4 → rowInV x b s = rowInV y c s) (n : Nat) (hn : n ≤ 4) : reportT x b n = reportT y c n := by
  induction n with
  | zero => rfl
  | succ n ih => rw [reportT_succ, reportT_succ, ih (by omega), h n (by omega)]
theorem report_clear {a : List Int} {b : Int} (h : okC a = true) (hb : 0 ≤ b ∧ b ≤ 1) : reportInV (clearV a b) b = [] := by
  unfold reportInV
  rw [if_pos ⟨clearV_ok h hb, bufOk_iff.2 hb⟩]
  refine reportT_none (fun s hs => ?_) 4 (Nat.le_refl _)
  unfold rowInV
  rw [if_pos ⟨clearV_ok h hb, bufOk_iff.2 hb, slotOk_iff.2 (by omega)⟩]
  refine row_quiet _ fun j => ?_
  have hl := okC_len (clearV_ok h hb)
  by_cases hj : j < 8
  · rw [slotRaw_at hl hb (by omega) j hj, clearV_get h hb, if_pos (by omega)]
  · rw [List.getD_eq_getElem?_getD, List.getElem?_eq_none (by rw [slotRaw_len hl hb (by omega)]; omega)]; rfl
theorem report_other {a : List Int} {b : Int} (h : okC a = true) (hb : 0 ≤ b ∧ b ≤ 1) : reportInV (clearV a b) (1 - b) = reportInV a (1 - b) := by
  have hb' : 0 ≤ 1 - b ∧ 1 - b ≤ 1 := by omega
  unfold reportInV
  rw [if_pos ⟨clearV_ok h hb, bufOk_iff.2 hb'⟩, if_pos ⟨h, bufOk_iff.2 hb'⟩]
  refine reportT_congr (fun s hs => ?_) 4 (Nat.le_refl _)
  refine rowInV_congr (clearV_ok h hb) h hb' (by omega) ?_ fun j hj => ?_
  · rw [clearV_get h hb, if_neg (by omega)]
  · rw [clearV_get h hb, if_neg (by omega)]
theorem rowIn_raw {a : List Int} {b : Int} {s : Nat} (h : okC a = true) (hb : 0 ≤ b ∧ b ≤ 1) (hs : s < 4) : rowInV a b s = rowFromV (cellK a s) (slotRaw a b s) := if_pos ⟨h, bufOk_iff.2 hb, slotOk_iff.2 (by omega)⟩
theorem clear_head {a : List Int} {b : Int} (h : okC a = true) (hb : 0 ≤ b ∧ b ≤ 1) : (clearV a b).take 7 = a.take 7 := by
  have hl := okC_len (clearV_ok h hb)
  have hl2 := okC_len h
  refine list_getD_ext (by simp [hl, hl2]) fun j hj => ?_
  have hj7 : j < 7 := by simp at hj; omega
  have := clearV_get h hb j
  rw [if_neg (by omega)] at this
  simpa [List.getD_eq_getElem?_getD, hj7] using this
/-- The facts where the cells are not valid, or the buffer is none. -/
theorem drained_no {a : List Int} {b : Int} (h : ¬ (okC a = true ∧ (0 ≤ b ∧ b ≤ 1))) : reportInV a b = [] ∧ clearV a b = a ∧ bufClearV a b = false := by
  have h' : ¬ (okC a = true ∧ bufOk b = true) := fun x => h ⟨x.1, bufOk_iff.1 x.2⟩
  refine ⟨if_neg h', if_neg h', ?_⟩
  unfold bufClearV
  cases h1 : okC a with
  | false => rfl
  | true => cases h2 : bufOk b with
    | false => rfl
    | true => exact absurd ⟨h1, h2⟩ h'
/-- Recording touches only cells of its own slot, and leaves words. -/
theorem putCells_ok {a : List Int} {b s kind w v : Int} (h : okC a = true) (hv : 0 ≤ v ∧ v ≤ 65535) : okC (putCells a b s kind w v) = true := by
  unfold putCells
  split
  · exact okC_set h _ _ (isW_modW _)
  · split
    · unfold putGauge; simp only
      have h1 := okC_set h (7 + b * 32 + s * 8 + 2).toNat _ (isW_modW (a.getD (7 + b * 32 + s * 8 + 2).toNat 0 + 1))
      split
      · exact okC_set h1 _ _ (isW_gauge _ _)
      · exact h1
    · unfold putTimer; simp only
      have h1 := okC_set h (7 + b * 32 + s * 8 + 4).toNat _ (isW_modW (a.getD (7 + b * 32 + s * 8 + 4).toNat 0 + 1))
      split
      · exact h1
      · exact okC_set h1 _ _ (isW_small (by omega))
theorem putCells_get {a : List Int} {b s kind w v : Int} (h : okC a = true) (hb : 0 ≤ b ∧ b ≤ 1) (hs : 0 ≤ s ∧ s ≤ 3) (hw : 0 ≤ w ∧ w ≤ 2) (j : Nat) (hj : ¬ (7 + b * 32 + s * 8 ≤ (j : Int) ∧ (j : Int) < 15 + b * 32 + s * 8)) : (putCells a b s kind w v).getD j 0 = a.getD j 0 := by
  have h4 := okC_at h (7 + b * 32 + s * 8 + 4).toNat (by omega)
  unfold putCells
  split
  · unfold putCount; rw [getD_set_ne _ (by omega)]
  · split
    · unfold putGauge; simp only
      split
      · rw [getD_set_ne _ (by omega), getD_set_ne _ (by omega)]
      · rw [getD_set_ne _ (by omega)]
    · unfold putTimer; simp only
      split
      · rw [getD_set_ne _ (by omega)]
      · rw [getD_set_ne _ (by omega), getD_set_ne _ (by omega)]
theorem recD_done {a : List Int} {w : Int} {key : ByteArray} {v : Int} : (recD a w key v = 0 ∨ recD a w key v = 5) ↔ (recArgs a w key v = true ∧ 0 ≤ fkS a key) := by
  unfold recD
  constructor
  · intro h
    split at h
    · rename_i hr
      split at h
      · rename_i h0; exact ⟨hr, h0⟩
      · omega
    · omega
  · rintro ⟨hr, h0⟩
    rw [if_pos hr, if_pos h0]; split <;> omega
theorem epoch_bit {a : List Int} (h : okC a = true) : 0 ≤ a.getD 0 0 % 2 ∧ a.getD 0 0 % 2 ≤ 1 := by omega
/-- What a record that is taken leaves: valid cells, the epoch, all keys, every other slot's row. -/
theorem rec_done {a : List Int} {w : Int} {key : ByteArray} {v : Int} (h : recArgs a w key v = true) (h0 : 0 ≤ fkS a key) :
    okC a = true ∧ okC (recC a w key v) = true ∧ (recC a w key v).getD 0 0 = a.getD 0 0 ∧ ∀ s : Nat, s < 4 → (s : Int) ≠ fkS a key → rowInV (recC a w key v) (a.getD 0 0 % 2) s = rowInV a (a.getD 0 0 % 2) s := by
  obtain ⟨hok, hw, hk, hv⟩ := recArgs_iff.1 h
  obtain ⟨f3, _, _⟩ := fk_found h0
  have hb := epoch_bit hok
  have e : recC a w key v = putCells a (a.getD 0 0 % 2) (fkS a key) (fkK a key) w v := if_pos ⟨h, h0⟩
  rw [e]
  refine ⟨hok, putCells_ok hok hv, putCells_get hok hb ⟨h0, f3⟩ hw 0 (by omega), fun s hs hne => ?_⟩
  refine rowInV_congr (putCells_ok hok hv) hok hb (by omega) (putCells_get hok hb ⟨h0, f3⟩ hw _ (by omega)) fun j hj => ?_
  exact putCells_get hok hb ⟨h0, f3⟩ hw _ (by omega)
theorem flushC_yes {a : List Int} (h : okC a = true) : flushC a = (clearV a (a.getD 0 0 % 2)).set 0 (modW (a.getD 0 0 + 1)) := if_pos h
/-- What a flush leaves: valid cells, the window's buffer empty, the epoch one more. -/
theorem flush_done {a : List Int} (h : okC a = true) : (flushC a).length = 71 ∧ flushR a = reportInV a (a.getD 0 0 % 2) ∧ bufClearV (flushC a) (a.getD 0 0 % 2) = true ∧ (flushC a).getD 0 0 = modW (a.getD 0 0 + 1) := by
  have hb := epoch_bit h
  have hc := clearV_ok h hb
  have hl := okC_len hc
  refine ⟨by rw [flushC_len, okC_len h], if_pos h, ?_, ?_⟩
  · rw [flushC_yes h]
    refine bufClear_of (okC_set hc 0 _ (isW_modW _)) hb fun j h0 h1 => ?_
    rw [getD_set_ne _ (by omega), clearV_get h hb, if_pos ⟨h0, h1⟩]
  · rw [flushC_yes h, getD_set_eq _ (by omega)]
end Go.Proofs.YtmglidfnolmcaaaGreatDoor
/-
  Contracts of chapter 2, the model's and the program's: storing into a cell, at once, by comparison, by exchange, by a sum; comparing two rows.
-/
namespace Go.Proofs.YtmglidfnolmcaaaGreatDoor
open Go.RowKit M
set_option linter.unusedVariables false
/-- A call hands back a new row that reads zs, and r beside it; it turns nothing that was there. -/
def TupI (w : World) (zs : List Int) (r : Value) (e : Ending) (w' : World) : Prop := ∃ v, e = .returned (.tuple #[v, r]) ∧ OwnI w' w.heap.size v zs ∧ Below w.heap.size w w'
/-- What a store makes of the row. -/
def storeC (zs : List Int) (i n : Int) : List Int := if atC zs i && isW n then zs.set i.toNat n else zs
def storeOk (zs : List Int) (i n : Int) : Bool := atC zs i && isW n
theorem store_yes {zs : List Int} {i n : Int} (h : storeOk zs i n = true) : storeC zs i n = zs.set i.toNat n := if_pos h
theorem store_no {zs : List Int} {i n : Int} (h : storeOk zs i n = false) : storeC zs i n = zs := if_neg (by unfold storeOk at h; rw [h]; decide)
theorem storeC_length (zs : List Int) (i n : Int) : (storeC zs i n).length = zs.length := by unfold storeC; split <;> simp
set_option maxRecDepth 100000 in
theorem iStore_yes (w : World) (v : Value) (zs : List Int) (i n : Int) (h : Ints w v zs) (hl : zs.length ≤ 1048576) (hs : storeOk zs i n = true) :
    Calls Tryz.prog 97 #[v, .int .i64 i, .int .i64 n] w (TupI w (storeC zs i n) (.bool true)) := by
  rw [store_yes hs]
  have hs' := hs
  simp only [storeOk, Bool.and_eq_true] at hs'
  obtain ⟨ha, hn⟩ := hs'
  obtain ⟨h0, i0, i1⟩ := atC_iff.1 ha
  have hlen := okC_len h0
  obtain ⟨j, rfl⟩ := Int.eq_ofNat_of_zero_le i0
  have hj : j < zs.length := by omega
  have HC := Lib.hid (clone_any w v zs h hl)
  have HI := Lib.hid h
  have HA := Lib.hid ha
  have HN := Lib.hid hn
  clear hs ha hn h0 h hlen
  go_enter Tryz.func97, Tryz.ntmps97
  go_wp2_with fail
  refine HC.out.mono ?_
  rintro e w1 ⟨u, rfl, ho, hb⟩
  obtain ⟨g, cap, rfl⟩ := ho.2
  have HS := Lib.hid (iLoad_yes w1 v zs _ (HI.out.below hb) HA.out)
  have hf := ho.frz j
  obtain ⟨z, hz⟩ : ∃ z, w1.cell? ⟨g, j, none⟩ = some z := ⟨_, ho.cell j hj⟩
  have HO := Lib.hid (own_set ho j n hb hb.size)
  generalize hm : zs.length = m at *
  have HM := Lib.hid hm
  have hm2 : m ≤ 9223372036854775807 := by omega
  clear hm ho hb
  go_wp2_with (first | (go_at_call 66; refine HS.out.mono ?_; rintro e w' ⟨rfl, rfl⟩) | (go_at_call 62; refine (isWord_yes _ _ HN.out).mono ?_; rintro e w' ⟨rfl, rfl⟩))
  go_ret2
  exact ⟨_, rfl, by rw [Int.toNat_natCast]; exact HO.out.1, HO.out.2⟩
set_option maxRecDepth 100000 in
theorem iStore_no (w : World) (v : Value) (zs : List Int) (i n : Int) (h : Ints w v zs) (hl : zs.length ≤ 1048576) (hs : storeOk zs i n = false) :
    Calls Tryz.prog 97 #[v, .int .i64 i, .int .i64 n] w (TupI w (storeC zs i n) (.bool false)) := by
  rw [store_no hs]
  have HC := Lib.hid (clone_any w v zs h hl)
  have HI := Lib.hid h
  cases ha : atC zs i with
  | false =>
    have HA := Lib.hid ha
    clear hs ha h
    go_enter Tryz.func97, Tryz.ntmps97
    go_wp2_with fail
    refine HC.out.mono ?_
    rintro e w1 ⟨u, rfl, ho, hb⟩
    have HS := Lib.hid (iLoad_no w1 v zs _ (HI.out.below hb) HA.out)
    have HO := Lib.hid ho
    have HB := Lib.hid hb
    clear ho hb
    go_wp2_with (first | (go_at_call 66; refine HS.out.mono ?_; rintro e w' ⟨rfl, rfl⟩))
    go_ret2
    exact ⟨_, rfl, HO.out, HB.out⟩
  | true =>
    have HA := Lib.hid ha
    have HN : Hid (isW n = false) := by
      simp only [storeOk, ha, Bool.true_and] at hs
      exact hs
    clear hs ha h
    go_enter Tryz.func97, Tryz.ntmps97
    go_wp2_with fail
    refine HC.out.mono ?_
    rintro e w1 ⟨u, rfl, ho, hb⟩
    have HS := Lib.hid (iLoad_yes w1 v zs _ (HI.out.below hb) HA.out)
    have HO := Lib.hid ho
    have HB := Lib.hid hb
    clear ho hb
    go_wp2_with (first | (go_at_call 66; refine HS.out.mono ?_; rintro e w' ⟨rfl, rfl⟩) | (go_at_call 62; refine (isWord_no _ _ HN.out).mono ?_; rintro e w' ⟨rfl, rfl⟩))
    go_ret2
    exact ⟨_, rfl, HO.out, HB.out⟩
theorem iStore_any (w : World) (v : Value) (zs : List Int) (i n : Int) (h : Ints w v zs) (hl : zs.length ≤ 1048576) (b : Bool) (hs : storeOk zs i n = b) :
    Calls Tryz.prog 97 #[v, .int .i64 i, .int .i64 n] w (TupI w (storeC zs i n) (.bool b)) := by
  cases b
  · exact iStore_no w v zs i n h hl hs
  · exact iStore_yes w v zs i n h hl hs
end Go.Proofs.YtmglidfnolmcaaaGreatDoor
/-
  Contracts of chapter 2, the model's and the program's: exchange, comparison and exchange, sum; comparing two rows.
-/
namespace Go.Proofs.YtmglidfnolmcaaaGreatDoor
open Go.RowKit M
set_option linter.unusedVariables false
theorem below_drewN {B : Nat} {a w : World} (h : Below B a w) (n : Nat) : Below B a (w.drewN n) := ⟨h.os, h.tape, h.output, h.size, h.block⟩
theorem OwnI.drewN {w : World} {base : Nat} {v : Value} {zs : List Int} (h : OwnI w base v zs) (n : Nat) : OwnI (w.drewN n) base v zs := h
/-- What an exchange answers beside the row. -/
def swapR (zs : List Int) (i n : Int) : Int := if storeOk zs i n then zs.getD i.toNat 0 else -1
set_option maxRecDepth 100000 in
theorem iSwap_any (w : World) (v : Value) (zs : List Int) (i n : Int) (h : Ints w v zs) (hl : zs.length ≤ 1048576) :
    Calls Tryz.prog 67 #[v, .int .i64 i, .int .i64 n] w (TupI w (storeC zs i n) (.int .i64 (swapR zs i n))) := by
  cases hs : storeOk zs i n with
  | true =>
    have HC := Lib.hid (iStore_any w v zs i n h hl true hs)
    have HR := Lib.hid (show swapR zs i n = zs.getD i.toNat 0 from if_pos hs)
    have hs' := hs
    simp only [storeOk, Bool.and_eq_true] at hs'
    obtain ⟨ha, hn⟩ := hs'
    obtain ⟨h0, i0, i1⟩ := atC_iff.1 ha
    have hlen := okC_len h0
    obtain ⟨j, rfl⟩ := Int.eq_ofNat_of_zero_le i0
    rw [Int.toNat_natCast] at HR
    have hj : j < zs.length := by omega
    obtain ⟨b, off, cap0, rfl, h1, h2, h3, h4⟩ := h
    have H4 := h4 j hj
    generalize hz0 : zs.getD j 0 = z0 at *
    generalize hsw : swapR zs (j : Int) n = r at *
    obtain rfl : r = z0 := HR.out
    generalize hm : zs.length = m at *
    unfold maxLen at h2
    clear hs ha hn h0 hlen HR h4 hz0 hsw hm
    go_enter Tryz.func67, Tryz.ntmps67
    go_wp2_with fail
    refine HC.out.mono ?_
    rintro e w1 ⟨u, rfl, ho, hb⟩
    have g1 := (hb.cell (p := ⟨b, off + j, none⟩) h3).trans H4
    have HO := Lib.hid ho
    have HB := Lib.hid hb
    clear ho hb
    go_wp2_with fail
    go_quiet (fail)
    go_wp2
    go_ret2
    exact ⟨_, rfl, HO.out.drewN _, below_drewN HB.out _⟩
  | false =>
    have HC := Lib.hid (iStore_any w v zs i n h hl false hs)
    have HR := Lib.hid (show swapR zs i n = -1 from if_neg (by rw [hs]; decide))
    generalize hsw : swapR zs i n = r at *
    obtain rfl : r = -1 := HR.out
    clear hs h hsw HR
    go_enter Tryz.func67, Tryz.ntmps67
    go_wp2_with fail
    refine HC.out.mono ?_
    rintro e w1 ⟨u, rfl, ho, hb⟩
    have HO := Lib.hid ho
    have HB := Lib.hid hb
    clear ho hb
    go_wp2_with fail
    go_ret2
    exact ⟨_, rfl, HO.out, HB.out⟩
/-- What comparison and exchange makes of the row, and answers beside it. -/
def casOk (zs : List Int) (i old : Int) : Bool := atC zs i && (zs.getD i.toNat 0 == old)
def casC (zs : List Int) (i old tw : Int) : List Int := if casOk zs i old then storeC zs i tw else zs
def casR (zs : List Int) (i old tw : Int) : Bool := casOk zs i old && storeOk zs i tw
theorem casC_length (zs : List Int) (i o n : Int) : (casC zs i o n).length = zs.length := by unfold casC; split <;> simp [storeC_length]
end Go.Proofs.YtmglidfnolmcaaaGreatDoor
/-
  Chapter 6, the program's functions: each answers what the plain words say. They turn nothing that was there.
-/
namespace Go.Proofs.YtmglidfnolmcaaaGreatDoor
open Go.RowKit M
set_option linter.unusedVariables false
theorem cellK_below {w wr : World} {b off cap : Nat} {zs : List Int} {B : Nat} (hz : Ints w (.slice (some ⟨b, off, none⟩) B cap) zs) (hc : okC zs = true) (hb : Below w.heap.size w wr) {s : Int} (h0 : 0 ≤ s) (h3 : s ≤ 3) : wr.cell? ⟨b, off + (3 + s).toNat, none⟩ = some (.int .i64 (cellK zs s)) := by
  obtain ⟨b', off', cap', e, _, _, _, h4⟩ := hz.below hb
  injection e with e1 _ _
  injection e1 with e1
  injection e1 with e1 e2 _
  subst e1; subst e2
  exact cellK_at h4 (okC_len hc) h0 h3
theorem cellK_word {zs : List Int} (hc : okC zs = true) {s : Int} (h0 : 0 ≤ s) (h3 : s ≤ 3) : 0 ≤ cellK zs s ∧ cellK zs s ≤ 281474976710655 := okC_at hc _ (by omega)
theorem ownI_mono {w : World} {b b' : Nat} {v : Value} {zs : List Int} (h : OwnI w b' v zs) (hb : b ≤ b') : OwnI w b v zs := by
  obtain ⟨⟨h1, h2⟩, h3⟩ := h
  refine ⟨⟨h1, ?_⟩, h3⟩
  rcases h2 with h | ⟨g, cap, cur, e, hg, hr⟩
  · exact Or.inl h
  · exact Or.inr ⟨g, cap, cur, e, Nat.le_trans hb hg, hr⟩
theorem ret_int1 {a b : Int} (h : a = b) : Ending.returned (.int .i64 a) = .returned (.int .i64 b) := by rw [h]
set_option maxRecDepth 100000 in
set_option maxHeartbeats 1600000 in
theorem iEnd_any (w : World) (v : Value) (zs : List Int) (key : ByteArray) (hz : Ints w v zs) (hc : okC zs = true) (hk : keyOkV key = true) :
    Calls Tryz.prog 64 #[v, .string key] w (Gives (.int .i64 (slotE (findV zs key))) w) := by
  have hks : key.size ≤ maxLen := by have := (keyOkV_iff.1 hk).1; unfold maxLen; omega
  have hl := okC_len hc
  have HZ := Lib.hid hz
  have HC := Lib.hid hc
  have HK := Lib.hid hk
  have HKN := Lib.hid (key_ne hk)
  obtain ⟨b, off, cap, rfl, hcl, hcm, _, _⟩ := hz
  rw [hl] at *
  clear hc hk
  go_enter Tryz.func64, Tryz.ntmps64
  go_wp2
  go_loopw [10] (fun x wr => ∃ n : Nat, n ≤ 4 ∧ x = .int .i64 n ∧ (∀ m : Nat, m < n → stepF zs key m = none) ∧ Below w.heap.size w wr) (fun x _ => 4 - (intOf x).toNat)
  case atStart => exact ⟨0, Nat.zero_le _, rfl, fun m hm => absurd hm (Nat.not_lt_zero _), Below.refl _ _⟩
  case round =>
    obtain ⟨n, hn, rfl, hd, hb⟩ := hrel
    have HD := Lib.hid hd
    have HB := Lib.hid hb
    clear hd hb
    by_cases hlt : n < 4
    · obtain ⟨p0, p3⟩ := probe_bd HK.out hlt
      have HP := Lib.hid (iProbe_same wr key n hks)
      have HKC := Lib.hid (iKey_any (probeV key n) wr)
      rw [keyV_yes ⟨p0, p3⟩] at HKC
      have hcr := cellK_below HZ.out HC.out HB.out p0 p3
      obtain ⟨x0, x1⟩ := cellK_word HC.out p0 p3
      have hp71 : 3 + probeV key n < 71 := by omega
      have HU := Lib.hid (iUntag_any wr (cellK zs (probeV key n)) (by omega) (by omega))
      have HS := Lib.hid (show stepF zs key n = if cellK zs (probeV key n) = 0 then some (-1, 0, probeV key n) else match untagV (cellK zs (probeV key n)) with | some (k, kd) => if k = key then some (probeV key n, kd, -1) else none | none => none from rfl)
      by_cases hx : cellK zs (probeV key n) = 0
      · have HF := Lib.hid (congrArg slotE (findV_at hlt HD.out (HS.out.trans (if_pos hx))))
        rw [hx] at hcr HU
        rw [untagV_zero, untT_none] at HU
        rw [slotE_free] at HF
        have hkn := txt_ne (Ne.symm HKN.out)
        have hkn2 := txt_full HKN.out
        clear hx HS x0 x1
        generalize probeV key n = p at *
        go_wp2_with (first | (go_at_call 94; refine HP.out.mono ?_; rintro e w' ⟨rfl, rfl⟩) | (go_at_call 43; refine HKC.out.mono ?_; rintro e w' ⟨rfl, rfl⟩) | (go_at_call 65; refine HU.out.mono ?_; rintro e w2 ⟨rfl, hb2⟩))
        go_ret
        exact ⟨ret_int1 HF.out.symm, HB.out.trans (hb2.mono HB.out.size)⟩
      · have hxne : (cellK zs (probeV key n) == 0) = false := by rw [beq_eq_false_iff_ne]; exact hx
        have HS2 := Lib.hid (HS.out.trans (if_neg hx))
        clear HS hx x0 x1
        cases hu : untagV (cellK zs (probeV key n)) with
        | none =>
          rw [hu] at HS2
          rw [hu, untT_none] at HU
          have HN := Lib.hid (none_next HD.out HS2.out)
          have hkn := txt_ne (Ne.symm HKN.out)
          have hkn2 := txt_full HKN.out
          clear hu HS2
          generalize cellK zs (probeV key n) = x at *
          generalize probeV key n = p at *
          go_wp2_with (first | (go_at_call 94; refine HP.out.mono ?_; rintro e w' ⟨rfl, rfl⟩) | (go_at_call 43; refine HKC.out.mono ?_; rintro e w' ⟨rfl, rfl⟩) | (go_at_call 65; refine HU.out.mono ?_; rintro e w2 ⟨rfl, hb2⟩))
          go_roundw
          case rel => exact ⟨n + 1, by omega, by go_num, HN.out, HB.out.trans (hb2.mono HB.out.size)⟩
          case measure => simp [intOf]; omega
        | some u =>
          obtain ⟨k, kd⟩ := u
          rw [hu] at HS2
          rw [hu, untT_some] at HU
          by_cases he : k = key
          · have HF := Lib.hid ((congrArg slotE (findV_at hlt HD.out (HS2.out.trans (if_pos he)))).trans (slotE_found p0 kd (-1)))
            subst he
            clear hu HS2
            generalize cellK zs (probeV k n) = x at *
            generalize probeV k n = p at *
            go_wp2_with (first | (go_at_call 94; refine HP.out.mono ?_; rintro e w' ⟨rfl, rfl⟩) | (go_at_call 43; refine HKC.out.mono ?_; rintro e w' ⟨rfl, rfl⟩) | (go_at_call 65; refine HU.out.mono ?_; rintro e w2 ⟨rfl, hb2⟩))
            go_ret
            exact ⟨ret_int1 HF.out.symm, HB.out.trans (hb2.mono HB.out.size)⟩
          · have HN := Lib.hid (none_next HD.out (HS2.out.trans (if_neg he)))
            have hkn := txt_ne he
            clear hu HS2 he
            generalize cellK zs (probeV key n) = x at *
            generalize probeV key n = p at *
            go_wp2_with (first | (go_at_call 94; refine HP.out.mono ?_; rintro e w' ⟨rfl, rfl⟩) | (go_at_call 43; refine HKC.out.mono ?_; rintro e w' ⟨rfl, rfl⟩) | (go_at_call 65; refine HU.out.mono ?_; rintro e w2 ⟨rfl, hb2⟩))
            go_roundw
            case rel => exact ⟨n + 1, by omega, by go_num, HN.out, HB.out.trans (hb2.mono HB.out.size)⟩
            case measure => simp [intOf]; omega
    · have hge : decide ((n : Int) < 4) = false := by simp; omega
      have HF := Lib.hid (congrArg slotE (findV_none (fun m hm => HD.out m (by omega))))
      go_wp2
      go_ret
      exact ⟨ret_int1 HF.out.symm, HB.out⟩
set_option maxRecDepth 100000 in
set_option maxHeartbeats 800000 in
theorem iFindKey_any (w : World) (v : Value) (zs : List Int) (key : ByteArray) (hz : Ints w v zs) (hs : key.size ≤ maxLen) :
    Calls Tryz.prog 29 #[v, .string key] w (Gives (.tuple #[.int .i64 (fkS zs key), .int .i64 (fkK zs key)]) w) := by
  have HC := Lib.hid (iOk_any w v zs hz)
  have HO := Lib.hid (iKeyOk_same w key hs)
  have HZ := Lib.hid hz
  cases hc : okC zs with
  | false =>
    obtain ⟨b, off, cap, rfl, _, _, _, _⟩ := hz
    have E1 := Lib.hid (show fkS zs key = -1 from if_neg (by rw [hc]; simp))
    have E2 := Lib.hid (show fkK zs key = 0 from if_neg (by rw [hc]; simp))
    rw [hc] at HC
    clear hc
    go_enter Tryz.func29, Tryz.ntmps29
    go_wp2_with (go_at_call 24; refine HC.out.mono ?_; rintro e w' ⟨rfl, rfl⟩)
    go_ret2
    exact ⟨ret_ii E1.out.symm E2.out.symm, Below.refl _ _⟩
  | true =>
    cases hk : keyOkV key with
    | false =>
      obtain ⟨b, off, cap, rfl, _, _, _, _⟩ := hz
      have E1 := Lib.hid (show fkS zs key = -1 from if_neg (by rw [hk]; simp))
      have E2 := Lib.hid (show fkK zs key = 0 from if_neg (by rw [hk]; simp))
      rw [hc] at HC
      rw [hk] at HO
      clear hc hk
      go_enter Tryz.func29, Tryz.ntmps29
      go_wp2_with (first | (go_at_call 24; refine HC.out.mono ?_; rintro e w' ⟨rfl, rfl⟩) | (go_at_call 26; refine HO.out.mono ?_; rintro e w' ⟨rfl, rfl⟩))
      go_ret2
      exact ⟨ret_ii E1.out.symm E2.out.symm, Below.refl _ _⟩
    | true =>
      have E1 := Lib.hid (show fkS zs key = (findV zs key).1 from if_pos ⟨hc, hk⟩)
      have E2 := Lib.hid (show fkK zs key = (findV zs key).2.1 from if_pos ⟨hc, hk⟩)
      have HF := Lib.hid (iEnd_any w _ zs key hz hc hk)
      have hl := okC_len hc
      have HEN := Lib.hid (findV_ends zs hk)
      have HCC := Lib.hid hc
      rw [hc] at HC
      rw [hk] at HO
      obtain ⟨b, off, cap, rfl, _, _, _, _⟩ := hz
      rw [hl] at *
      clear hc hk
      rcases HEN.out with hr | ⟨p, p0, p3, ⟨hr, hx⟩ | ⟨kd, hr, hx, hu⟩⟩
      · rw [hr] at E1 E2 HF
        rw [slotE_free] at HF
        clear hr HEN
        go_enter Tryz.func29, Tryz.ntmps29
        go_wp2_with (first | (go_at_call 24; refine HC.out.mono ?_; rintro e w' ⟨rfl, rfl⟩) | (go_at_call 26; refine HO.out.mono ?_; rintro e w' ⟨rfl, rfl⟩) | (go_at_call 64; refine HF.out.mono ?_; rintro e w2 ⟨rfl, hb⟩))
        go_ret2
        exact ⟨ret_ii E1.out.symm E2.out.symm, hb⟩
      · have HCR := fun W (hb : Below w.heap.size w W) => cellK_below HZ.out HCC.out hb p0 p3
        rw [hr] at E1 E2 HF
        rw [slotE_free] at HF
        rw [hx] at HCR
        have HKC := fun W => Lib.hid (iKey_any p W)
        rw [keyV_yes ⟨p0, p3⟩] at HKC
        have hp71 : 3 + p < 71 := by omega
        have hpn : decide (p < 0) = false := by rw [decide_eq_false]; omega
        have HCR := Lib.hid HCR
        clear hr HEN hx
        go_enter Tryz.func29, Tryz.ntmps29
        go_wp2_with (first | (go_at_call 24; refine HC.out.mono ?_; rintro e w' ⟨rfl, rfl⟩) | (go_at_call 26; refine HO.out.mono ?_; rintro e w' ⟨rfl, rfl⟩) | (go_at_call 64; refine HF.out.mono ?_; rintro e w2 ⟨rfl, hb⟩; have hcr := HCR.out w2 hb) | (go_at_call 43; refine (HKC _).out.mono ?_; rintro e w' ⟨rfl, rfl⟩))
        go_ret2
        exact ⟨ret_ii E1.out.symm E2.out.symm, hb⟩
      · have HCR := Lib.hid (fun W (hb : Below w.heap.size w W) => cellK_below HZ.out HCC.out hb p0 p3)
        rw [hr] at E1 E2 HF
        rw [slotE_found p0] at HF
        obtain ⟨x0, x1⟩ := cellK_word HCC.out p0 p3
        have HU := fun W => Lib.hid (iUntag_any W (cellK zs p) (by omega) (by omega))
        rw [hu, untT_some] at HU
        have HKC := fun W => Lib.hid (iKey_any p W)
        rw [keyV_yes ⟨p0, p3⟩] at HKC
        have hp71 : 3 + p < 71 := by omega
        have hpn : decide (p < 0) = false := by rw [decide_eq_false]; omega
        have hxne : (cellK zs p == 0) = false := by rw [beq_eq_false_iff_ne]; exact hx
        clear hr HEN hx hu x0 x1
        generalize cellK zs p = x at *
        go_enter Tryz.func29, Tryz.ntmps29
        go_wp2_with (first | (go_at_call 24; refine HC.out.mono ?_; rintro e w' ⟨rfl, rfl⟩) | (go_at_call 26; refine HO.out.mono ?_; rintro e w' ⟨rfl, rfl⟩) | (go_at_call 64; refine HF.out.mono ?_; rintro e w2 ⟨rfl, hb⟩; have hcr := HCR.out w2 hb) | (go_at_call 43; refine (HKC _).out.mono ?_; rintro e w' ⟨rfl, rfl⟩) | (go_at_call 65; refine (HU _).out.mono ?_; rintro e w3 ⟨rfl, hb3⟩))
        go_ret2
        exact ⟨ret_ii E1.out.symm E2.out.symm, hb.trans (hb3.mono hb.size)⟩
/-- What registering comes to where the way ends at a free slot. -/
theorem reg_free {zs : List Int} {key : ByteArray} {k p : Int} (hr : regOk zs key k = true) (h0 : 0 ≤ p) (h3 : p ≤ 3) (hf : findV zs key = (-1, 0, p)) (hx : cellK zs p = 0) :
    casC zs (3 + p) 0 (tagV key k) = regC zs key k ∧ casR zs (3 + p) 0 (tagV key k) = true ∧ regS zs key k = p ∧ regD zs key k = 0 := by
  have hc : okC zs = true := by simp only [regOk, Bool.and_eq_true] at hr; exact hr.1
  have ha : atC zs (3 + p) = true := atC_iff.2 ⟨hc, by omega, by omega⟩
  have hw : isW (tagV key k) = true := isW_iff.2 (by have := tagV_bd key k; omega)
  have h1 : casOk zs (3 + p) 0 = true := by unfold casOk; rw [ha]; show (cellK zs p == 0) = true; rw [hx]; rfl
  have h2 : storeOk zs (3 + p) (tagV key k) = true := by unfold storeOk; rw [ha, hw]; rfl
  obtain ⟨e1, e2, e3⟩ := reg_new (zs := zs) (key := key) (k := k) hr (by rw [hf]; exact (by decide : (-1 : Int) < 0)) (by rw [hf]; exact h0)
  rw [hf] at e1 e2
  refine ⟨?_, ?_, e2, e3⟩
  · rw [e1]; unfold casC; rw [if_pos h1]; exact store_yes h2
  · unfold casR; rw [h1, h2]; rfl
/-- And where it ends at the key's own. -/
theorem reg_found {zs : List Int} {key : ByteArray} {k p kd : Int} (hr : regOk zs key k = true) (h0 : 0 ≤ p) (h3 : p ≤ 3) (hf : findV zs key = (p, kd, -1)) (hx : cellK zs p ≠ 0) (t : Int) :
    casR zs (3 + p) 0 t = false ∧ regC zs key k = zs ∧ regS zs key k = p ∧ regD zs key k = if kd = k then 0 else 4 := by
  obtain ⟨e1, e2, e3⟩ := reg_slot (zs := zs) (key := key) (k := k) hr (by rw [hf]; exact h0)
  rw [hf] at e2 e3
  refine ⟨?_, e1, e2, e3⟩
  have h1 : casOk zs (3 + p) 0 = false := by
    unfold casOk
    rw [show (zs.getD (3 + p).toNat 0 == 0) = false from beq_eq_false_iff_ne.2 hx, Bool.and_false]
  unfold casR; rw [h1]; rfl
end Go.Proofs.YtmglidfnolmcaaaGreatDoor
/-
  The model's comparison of two rows of cells.
-/
namespace Go.Proofs.YtmglidfnolmcaaaGreatDoor
open Go.RowKit M
set_option linter.unusedVariables false
def AgreeTo (xs ys : List Int) (j : Nat) : Prop := ∀ m, m < j → xs.getD m 0 = ys.getD m 0
theorem AgreeTo.zero (xs ys : List Int) : AgreeTo xs ys 0 := fun m h => absurd h (Nat.not_lt_zero _)
theorem AgreeTo.next {xs ys : List Int} {j : Nat} (h : AgreeTo xs ys j) (k : xs.getD j 0 = ys.getD j 0) : AgreeTo xs ys (j + 1) := fun m hm => by
  by_cases e : m = j
  · rw [e]; exact k
  · exact h m (by omega)
theorem AgreeTo.all {xs ys : List Int} (h : AgreeTo xs ys xs.length) (hl : xs.length = ys.length) : xs = ys := by
  apply List.ext_getElem hl
  intro i h1 h2
  have := h i h1
  rw [List.getD_eq_getElem?_getD, List.getD_eq_getElem?_getD, List.getElem?_eq_getElem h1, List.getElem?_eq_getElem h2] at this
  exact this
set_option maxRecDepth 100000 in
theorem sSame_any (w : World) (v u : Value) (xs ys : List Int) (h : Ints w v xs) (k : Ints w u ys) :
    Calls Tryz.prog 8 #[v, u] w (Quiet w (.bool (xs == ys))) := by
  obtain ⟨b, off, cap, rfl, h1, h2, h3, h4⟩ := h
  obtain ⟨b', off', cap', rfl, k1, k2, k3, k4⟩ := k
  by_cases hl : xs.length = ys.length
  · have HL := Lib.hid hl
    rw [← hl] at k1 k4 ⊢
    generalize hn : xs.length = n at *
    have HN := Lib.hid hn
    clear hn hl
    unfold maxLen at h2 k2
    have H4 := Lib.hid h4
    have K4 := Lib.hid k4
    clear h4 k4
    go_enter Tryz.func8, Tryz.ntmps8
    go_wp2
    go_loopw [5] (fun i wr => ∃ j q : Nat, j ≤ n ∧ i = .int .i64 j ∧ wr = w.drewN q ∧ AgreeTo xs ys j) (fun i _ => n - (intOf i).toNat)
    case atStart => exact ⟨0, 0, Nat.zero_le _, rfl, rfl, AgreeTo.zero _ _⟩
    case round =>
      obtain ⟨j, q, hj, rfl, rfl, ha⟩ := hrel
      have HA := Lib.hid ha
      clear ha
      by_cases hlt : j < n
      · have g1 := H4.out j hlt
        have g2 := K4.out j hlt
        by_cases he : xs.getD j 0 = ys.getD j 0
        · rw [← he] at g2
          have HE := Lib.hid he
          clear he
          generalize hz : xs.getD j 0 = z at *
          have HZ := Lib.hid hz
          clear hz
          go_wp2_with fail
          go_quiet (fail)
          go_wp2
          go_roundw
          case rel => exact ⟨j + 1, q + _, by omega, by go_num, rfl, HA.out.next (HZ.out.trans HE.out)⟩
          case measure => simp [intOf]; omega
        · have HX := Lib.hid (show (xs == ys) = false by
            rw [beq_eq_false_iff_ne]; intro h; exact he (by rw [h]))
          generalize xs.getD j 0 = z at *
          generalize ys.getD j 0 = y at *
          have t1 : (z != y) = true := by rw [bne_iff_ne]; exact he
          clear he
          go_wp2_with fail
          go_quiet (fail)
          go_wp2
          go_ret
          exact ⟨ret_bool' HX.out.symm, _, World.drewN_drewN _ _ _⟩
      · obtain rfl : j = n := by omega
        have HX := Lib.hid (show (xs == ys) = true by
          rw [beq_iff_eq]; exact AgreeTo.all (by rw [HN.out]; exact HA.out) (by first | exact HL.out | exact HN.out.trans HL.out))
        go_wp2
        go_ret
        exact ⟨ret_bool' HX.out.symm, q, rfl⟩
  · have HX := Lib.hid (show (xs == ys) = false by
      rw [beq_eq_false_iff_ne]; intro h; exact hl (by rw [h]))
    have t1 : ((xs.length : Int) != (ys.length : Int)) = true := by rw [bne_iff_ne]; omega
    generalize xs.length = n at *
    generalize ys.length = m at *
    clear h4 k4
    go_enter Tryz.func8, Tryz.ntmps8
    go_wp2
    go_ret
    exact ⟨ret_bool' HX.out.symm, 0, rfl⟩
end Go.Proofs.YtmglidfnolmcaaaGreatDoor
/-
  Contracts of chapter 2, the model's and the program's: the sum; comparing two rows.
-/
namespace Go.Proofs.YtmglidfnolmcaaaGreatDoor
open Go.RowKit M
set_option linter.unusedVariables false
def addOk (zs : List Int) (i n : Int) : Bool := atC zs i && (decide (-281474976710655 ≤ n) && decide (n ≤ 281474976710655))
/-- The sum of a cell and a number, modulo the word. -/
def addM (old n : Int) : Int := (old + n) % 281474976710656
def addC (zs : List Int) (i n : Int) : List Int := if addOk zs i n then zs.set i.toNat (addM (zs.getD i.toNat 0) n) else zs
def addR (zs : List Int) (i n : Int) : Int := if addOk zs i n then zs.getD i.toNat 0 else -1
theorem addC_length (zs : List Int) (i n : Int) : (addC zs i n).length = zs.length := by unfold addC; split <;> simp
theorem addM_bd (old n : Int) : 0 ≤ addM old n ∧ addM old n ≤ 281474976710655 := by unfold addM; omega
theorem addM_isW (old n : Int) : isW (addM old n) = true := isW_iff.2 (addM_bd old n)
theorem add_store {zs : List Int} {i n : Int} (h : addOk zs i n = true) (m : Int) (hm : m = addM (zs.getD i.toNat 0) n) : storeC zs i m = addC zs i n ∧ swapR zs i m = addR zs i n := by
  have ha : atC zs i = true := by simp only [addOk, Bool.and_eq_true] at h; exact h.1
  have hs : storeOk zs i m = true := by unfold storeOk; rw [ha, hm, addM_isW]; rfl
  constructor
  · rw [store_yes hs, addC, if_pos h, hm]
  · rw [swapR, if_pos hs, addR, if_pos h]
set_option maxRecDepth 100000 in
theorem iAdd_any (w : World) (v : Value) (zs : List Int) (i n : Int) (h : Ints w v zs) (hl : zs.length ≤ 1048576) (n0 : -9223372036854775808 ≤ n) (n1 : n ≤ 9223372036854775807) :
    Calls Tryz.prog 31 #[v, .int .i64 i, .int .i64 n] w (TupI w (addC zs i n) (.int .i64 (addR zs i n))) := by
  cases ha : atC zs i with
  | false =>
    have hs : addOk zs i n = false := by unfold addOk; rw [ha]; rfl
    have HR := Lib.hid (show addR zs i n = -1 from if_neg (by rw [hs]; decide))
    have HX := Lib.hid (show addC zs i n = zs from if_neg (by rw [hs]; decide))
    have HC := Lib.hid (clone_any w v zs h hl)
    have HA := Lib.hid (iLoad_no w v zs i h ha)
    rw [HX.out]
    generalize addR zs i n = r at *
    obtain rfl : r = -1 := HR.out
    clear hs ha h HR HX
    go_enter Tryz.func31, Tryz.ntmps31
    go_wp2_with fail
    refine HA.out.mono ?_
    rintro e w1 ⟨rfl, rfl⟩
    go_wp2_with fail
    refine HC.out.mono ?_
    rintro e w1 ⟨u, rfl, ho, hb⟩
    have HO := Lib.hid ho
    have HB := Lib.hid hb
    clear ho hb
    go_wp2_with fail
    go_ret2
    exact ⟨_, rfl, HO.out, HB.out⟩
  | true =>
    have HA := Lib.hid (iLoad_yes w v zs i h ha)
    by_cases b0 : n ≤ -281474976710656 ∨ 281474976710656 ≤ n
    · have hs : addOk zs i n = false := by
        simp only [addOk, ha, Bool.true_and, Bool.and_eq_false_iff, decide_eq_false_iff_not]; omega
      have HR := Lib.hid (show addR zs i n = -1 from if_neg (by rw [hs]; decide))
      have HX := Lib.hid (show addC zs i n = zs from if_neg (by rw [hs]; decide))
      have HC := Lib.hid (clone_any w v zs h hl)
      rw [HX.out]
      generalize addR zs i n = r at *
      obtain rfl : r = -1 := HR.out
      generalize zs.getD i.toNat 0 = z at *
      clear hs ha h HR HX
      by_cases b1 : n ≤ -281474976710656
      · have t1 : decide (n ≤ -281474976710656) = true := by simp; omega
        clear b0
        go_enter Tryz.func31, Tryz.ntmps31
        go_wp2_with fail
        refine HA.out.mono ?_
        rintro e w1 ⟨rfl, rfl⟩
        go_wp2_with fail
        refine HC.out.mono ?_
        rintro e w1 ⟨u, rfl, ho, hb⟩
        have HO := Lib.hid ho
        have HB := Lib.hid hb
        clear ho hb
        go_wp2_with fail
        go_ret2
        exact ⟨_, rfl, HO.out, HB.out⟩
      · have t1 : decide (n ≤ -281474976710656) = false := by simp; omega
        have t2 : decide (281474976710656 ≤ n) = true := by simp; omega
        clear b0
        go_enter Tryz.func31, Tryz.ntmps31
        go_wp2_with fail
        refine HA.out.mono ?_
        rintro e w1 ⟨rfl, rfl⟩
        go_wp2_with fail
        refine HC.out.mono ?_
        rintro e w1 ⟨u, rfl, ho, hb⟩
        have HO := Lib.hid ho
        have HB := Lib.hid hb
        clear ho hb
        go_wp2_with fail
        go_ret2
        exact ⟨_, rfl, HO.out, HB.out⟩
    · have hs : addOk zs i n = true := by
        simp only [addOk, ha, Bool.true_and, Bool.and_eq_true, decide_eq_true_eq]; omega
      obtain ⟨h0, i0, i1⟩ := atC_iff.1 ha
      have hlen := okC_len h0
      obtain ⟨z0, z1⟩ := okC_at h0 i.toNat (by omega)
      have hst := add_store hs ((zs.getD i.toNat 0 + n) % 281474976710656) rfl
      have HS := iSwap_any w v zs i ((zs.getD i.toNat 0 + n) % 281474976710656) h hl
      rw [hst.1, hst.2] at HS
      have HS2 := Lib.hid HS
      generalize addC zs i n = ys at *
      generalize addR zs i n = r at *
      generalize zs.getD i.toNat 0 = z at *
      have t1 : decide (n ≤ -281474976710656) = false := by simp; omega
      have t2 : decide (281474976710656 ≤ n) = false := by simp; omega
      have t3 : -281474976710656 < n := by omega
      have t4 : n < 281474976710656 := by omega
      clear hs ha h h0 hlen hst HS b0
      go_enter Tryz.func31, Tryz.ntmps31
      go_wp2_with fail
      refine HA.out.mono ?_
      rintro e w1 ⟨rfl, rfl⟩
      go_wp2_with fail
      refine HS2.out.mono ?_
      rintro e w1 ⟨u, rfl, ho, hb⟩
      have HO := Lib.hid ho
      have HB := Lib.hid hb
      clear ho hb
      go_wp2_with fail
      go_ret2
      exact ⟨_, rfl, HO.out, HB.out⟩
end Go.Proofs.YtmglidfnolmcaaaGreatDoor
/-
  What FnNow's walk carries along through its last statement.
-/
namespace Go.Proofs.YtmglidfnolmcaaaGreatDoor
open Go.RowKit M
set_option linter.unusedVariables false
/-- What FnNow's last statement keeps from world to world. -/
structure NowH (w0 : World) (p q : Addr) (zc xc : Nat) (fs xs : List Int) (l : Value) (rs : List R) (w : World) : Prop where
  z : Ints w (.slice (some p) 71 zc) fs
  x : Ints w (.slice (some q) 71 xc) xs
  l : RowsArg w l rs
  b : Below w0.heap.size w0 w
theorem ints_blk {w : World} {p : Addr} {n c : Nat} {zs : List Int} (h : Ints w (.slice (some p) n c) zs) : p.block < w.heap.size := by
  obtain ⟨b, off, cap, e, _, _, h3, _⟩ := h
  injection e with e1 _ _
  injection e1 with e1
  subst e1
  exact h3
theorem nowS_next {w0 w1 w2 : World} {p q : Addr} {zc xc : Nat} {fs xs : List Int} {l : Value} {rs : List R} {x y : Value} (hb : Below w1.heap.size w1 w2) (h : w1.cell? p = some x ∧ w1.cell? q = some y ∧ NowH w0 p q zc xc fs xs l rs w1) :
    w2.cell? p = some x ∧ w2.cell? q = some y ∧ NowH w0 p q zc xc fs xs l rs w2 :=
  ⟨(hb.cell (ints_blk h.2.2.z)).trans h.1, (hb.cell (ints_blk h.2.2.x)).trans h.2.1, ⟨h.2.2.z.below hb, h.2.2.x.below hb, h.2.2.l.below hb, h.2.2.b.trans (hb.mono h.2.2.b.size)⟩⟩
theorem nowS_x {w0 w : World} {p q : Addr} {zc xc : Nat} {fs xs : List Int} {l : Value} {rs : List R} {s t : Prop} (h : s ∧ t ∧ NowH w0 p q zc xc fs xs l rs w) : Ints w (.slice (some q) 71 xc) xs := h.2.2.x
theorem nowS_z {w0 w : World} {p q : Addr} {zc xc : Nat} {fs xs : List Int} {l : Value} {rs : List R} {s t : Prop} (h : s ∧ t ∧ NowH w0 p q zc xc fs xs l rs w) : Ints w (.slice (some p) 71 zc) fs := h.2.2.z
theorem nowS_l {w0 w : World} {p q : Addr} {zc xc : Nat} {fs xs : List Int} {l : Value} {rs : List R} {s t : Prop} (h : s ∧ t ∧ NowH w0 p q zc xc fs xs l rs w) : RowsArg w l rs := h.2.2.l
theorem nowS_bel {w0 w : World} {p q : Addr} {zc xc : Nat} {fs xs : List Int} {l : Value} {rs : List R} {s t : Prop} (h : s ∧ t ∧ NowH w0 p q zc xc fs xs l rs w) : Below w0.heap.size w0 w := h.2.2.b
end Go.Proofs.YtmglidfnolmcaaaGreatDoor
/-
  The cursor of a draw: what its block holds, and what drawing one byte does to it: the next state of the mixed number, the next place, and a byte that follows from both and from the code.
-/
namespace Go.Proofs.YtmglidfnolmcaaaGreatDoor
open Go.RowKit M
set_option linter.unusedVariables false
/-- The mixed number behind h. -/
def nextH (h : Int) : Int := wrap64 (wrap64 (h * 6364136223846793005) + 1442695040888963407)
/-- The code's bytes lie at A, in another block than g. -/
def CodeAt (w : World) (g : Nat) (A : Option Addr) (len : Nat) (zs : List Int) : Prop :=
  len ≤ maxLen ∧ (0 < len → ∃ b off, A = some ⟨b, off, none⟩ ∧ b ≠ g ∧ ∀ j, j < len → w.cell? ⟨b, off + j, none⟩ = some (.int .u8 (zs.getD j 0)) ∧ 0 ≤ zs.getD j 0 ∧ zs.getD j 0 ≤ 255)
/-- Block g is a cursor over the code, at place i, with the mixed number h. -/
def CurAt (w : World) (g : Nat) (A : Option Addr) (len cap : Nat) (zs : List Int) (i : Nat) (h : Int) : Prop :=
  w.heap[g]? = some (.cells #[.slice A len cap, .int .i64 i, .int .i64 h] 75 (0, 0)) ∧ CodeAt w g A len zs ∧ i ≤ len
theorem CurAt.cells {w : World} {g len cap i : Nat} {A : Option Addr} {zs : List Int} {h : Int} (c : CurAt w g A len cap zs i h) :
    w.cell? ⟨g, 0, none⟩ = some (.slice A len cap) ∧ w.cell? ⟨g, 1, none⟩ = some (.int .i64 i) ∧ w.cell? ⟨g, 2, none⟩ = some (.int .i64 h) ∧ (∀ k, w.frozen? ⟨g, k, none⟩ = false) := by
  have e := c.1
  refine ⟨?_, ?_, ?_, ?_⟩
  · rw [cell_of_row w g 0 _ _ _ e]; rfl
  · rw [cell_of_row w g 1 _ _ _ e]; rfl
  · rw [cell_of_row w g 2 _ _ _ e]; rfl
  · intro k; simp [World.frozen?, e]
/-- The number that the mixed number gives. -/
def mixX (h : Int) : Int := bits .and .i64 (bits .xor .i64 (h / 8589934592) (h / 35184372088832)) 255
theorem i64_and255 (n : Int) : bits .and .i64 n 255 = n % 256 := by
  have h255 : (BitVec.ofInt 64 255).toNat = 2 ^ 8 - 1 := by decide
  have key : (BitVec.ofInt 64 n &&& BitVec.ofInt 64 255).toNat = (n % ((2 ^ 64 : Nat) : Int)).toNat % 2 ^ 8 := by
    rw [BitVec.toNat_and, BitVec.toNat_ofInt, h255, Nat.and_two_pow_sub_one_eq_mod]
  show IntKind.i64.wrap ((BitVec.ofInt 64 n &&& BitVec.ofInt 64 255).toNat : Nat) = n % 256
  rw [key, IntKind.wrap_i64]
  omega
theorem mixX_bd (h : Int) : 0 ≤ mixX h ∧ mixX h ≤ 255 := by unfold mixX; rw [i64_and255]; omega
/-- The byte that is drawn at place i behind the mixed number h. -/
def drawB (len : Nat) (zs : List Int) (i : Nat) (h : Int) : Int := if i < len then (mixX (nextH h) + zs.getD i 0) % 256 else mixX (nextH h)
def drawI (len i : Nat) : Nat := if i < len then i + 1 else i
theorem drawB_bd (len : Nat) (zs : List Int) (i : Nat) (h : Int) : 0 ≤ drawB len zs i h ∧ drawB len zs i h ≤ 255 := by
  unfold drawB
  have := mixX_bd (nextH h)
  split <;> omega
theorem CodeAt.grown {w w' : World} {g len : Nat} {A : Option Addr} {zs : List Int} (c : CodeAt w g A len zs) (hg : w.grownBy w' (some g)) : CodeAt w' g A len zs := by
  refine ⟨c.1, fun h => ?_⟩
  obtain ⟨b, off, e, hb, hc⟩ := c.2 h
  exact ⟨b, off, e, hb, fun j hj => ⟨hg.cell (hc j hj).1 (by intro h; exact hb (by injection h)), (hc j hj).2⟩⟩
theorem heap_set (w : World) (g k : Nat) (cs : Array Value) (t : TypeId) (v : Value) (h : w.heap[g]? = some (.cells cs t (0, 0))) : (w.setCell ⟨g, k, none⟩ v).heap[g]? = some (.cells (cs.setIfInBounds k v) t (0, 0)) := by
  simp [World.setCell, Array.getElem?_modify, h]
theorem grown_set (w : World) (g k : Nat) (v : Value) : w.grownBy (w.setCell ⟨g, k, none⟩ v) (some g) :=
  ⟨rfl, rfl, rfl, by simp [World.setCell], fun i _ hne => Below.heap_setCell w ⟨g, k, none⟩ v i (fun e => hne (by rw [e]))⟩
theorem grown_trans {a b c : World} {g : Nat} (h : a.grownBy b (some g)) (k : b.grownBy c (some g)) : a.grownBy c (some g) :=
  ⟨k.os.trans h.os, k.tape.trans h.tape, k.output.trans h.output, Nat.le_trans h.size k.size, fun i hi hne => (k.block i (Nat.lt_of_lt_of_le hi h.size) hne).trans (h.block i hi hne)⟩
theorem grown_drewN {a b : World} {row : Option Nat} (h : a.grownBy b row) (n : Nat) : a.grownBy (b.drewN n) row := ⟨h.os, h.tape, h.output, h.size, h.block⟩
theorem CurAt.set2 {w : World} {g len cap i : Nat} {A : Option Addr} {zs : List Int} {h : Int} (c : CurAt w g A len cap zs i h) (h1 : Int) : CurAt (w.setCell ⟨g, 2, none⟩ (.int .i64 h1)) g A len cap zs i h1 :=
  ⟨heap_set w g 2 _ _ _ c.1, c.2.1.grown (grown_set w g 2 _), c.2.2⟩
theorem CurAt.set1 {w : World} {g len cap i : Nat} {A : Option Addr} {zs : List Int} {h : Int} (c : CurAt w g A len cap zs i h) (i1 : Nat) (hi : i1 ≤ len) (v : Int) (hv : v = (i1 : Int)) : CurAt (w.setCell ⟨g, 1, none⟩ (.int .i64 v)) g A len cap zs i1 h := by
  subst hv
  exact ⟨heap_set w g 1 _ _ _ c.1, c.2.1.grown (grown_set w g 1 _), hi⟩
def BytePost (w : World) (g : Nat) (A : Option Addr) (len cap : Nat) (zs : List Int) (i : Nat) (h : Int) (e : Ending) (w' : World) : Prop :=
  e = .returned (.int .i64 (drawB len zs i h)) ∧ CurAt w' g A len cap zs (drawI len i) (nextH h) ∧ w.grownBy w' (some g)
set_option maxRecDepth 100000 in
theorem l1Byte_any (w : World) (g len cap i : Nat) (A : Option Addr) (zs : List Int) (h : Int) (c : CurAt w g A len cap zs i h) :
    Calls Tryz.prog 61 #[.pointer (some ⟨g, 0, none⟩)] w (BytePost w g A len cap zs i h) := by
  have C := Lib.hid c
  obtain ⟨c0, c1, c2, cf⟩ := c.cells
  have f2 := cf 2
  have f1 := cf 1
  have hm : wrap64 (wrap64 (h * 6364136223846793005) + 1442695040888963407) = nextH h := rfl
  have hx : bits .and .i64 (bits .xor .i64 (nextH h / 8589934592) (nextH h / 35184372088832)) 255 = mixX (nextH h) := rfl
  have hlen : len ≤ 9223372036854775807 := by have := c.2.1.1; unfold maxLen at this; omega
  by_cases hlt : i < len
  · obtain ⟨b, off, hA, hbg, hcell⟩ := c.2.1.2 (by omega)
    obtain ⟨hz, hz0, hz1⟩ := hcell i hlt
    subst hA
    have hzz : (w.setCell ⟨g, 2, none⟩ (.int .i64 (nextH h))).cell? ⟨b, off + i, none⟩ = some (.int .u8 (zs.getD i 0)) := (grown_set w g 2 (.int .i64 (nextH h))).cell hz (by intro h; exact hbg (by injection h))
    have hd : decide (i < len) = true := by simp; omega
    have hB : drawB len zs i h = (mixX (nextH h) + zs.getD i 0) % 256 := if_pos hlt
    have hI : drawI len i = i + 1 := if_pos hlt
    have HB := Lib.hid hB
    have HI := Lib.hid hI
    have hlt' : (i : Int) < (len : Int) := by omega
    have hi0 : (0 : Int) ≤ (i : Int) := by omega
    have hA255 := i64_and255 (mixX (nextH h) + zs.getD i 0)
    have HM := mixX_bd (nextH h)
    generalize zs.getD i 0 = z at *
    generalize hh : nextH h = h1 at *
    generalize mixX h1 = x1 at *
    have HH := Lib.hid hh
    obtain ⟨m0, m1⟩ := HM
    clear c cf hcell hbg hB hI hz hh
    go_enter Tryz.func61, Tryz.ntmps61
    go_wp2
    go_quiet (fail)
    go_wp2
    go_quiet (fail)
    go_wp2
    go_quiet (fail)
    go_wp2
    go_ret
    refine ⟨ret_int HB.out.symm, ?_, ?_⟩
    · rw [HI.out, HH.out]
      exact (C.out.set2 h1).set1 (i + 1) (by omega) ((i : Int) + 1) (by omega)
    · exact grown_trans (grown_drewN (grown_set w g 2 _) _) (grown_set _ g 1 _)
  · have hd : decide (i < len) = false := by simp; omega
    have hB : drawB len zs i h = mixX (nextH h) := if_neg hlt
    have hI : drawI len i = i := if_neg hlt
    have HB := Lib.hid hB
    have HI := Lib.hid hI
    have hlt' : ¬ (i : Int) < (len : Int) := by omega
    generalize hh : nextH h = h1 at *
    generalize mixX h1 = x1 at *
    have HH := Lib.hid hh
    clear c cf hB hI hh
    go_enter Tryz.func61, Tryz.ntmps61
    go_wp2
    go_quiet (fail)
    go_wp2
    go_quiet (fail)
    go_wp2
    go_ret
    refine ⟨ret_int HB.out.symm, ?_, ?_⟩
    · rw [HI.out, HH.out]
      exact C.out.set2 h1
    · exact grown_drewN (grown_drewN (grown_set w g 2 _) _) _
end Go.Proofs.YtmglidfnolmcaaaGreatDoor
/-
  A law's code as it lies: where, how long, its bytes; what a walk is told of it; a law's look into it.
-/
namespace Go.Proofs.YtmglidfnolmcaaaGreatDoor
open Go.RowKit M
set_option linter.unusedVariables false
/-- A code as it lies: where, how long, its bytes. -/
structure Code where
  A : Option Addr
  len : Nat
  cap : Nat
  zs : List Int
/-- What a walk is told of a slice of bytes that came in. -/
def IsRow (w : World) (a : Option Addr) (len cap : Nat) (zs : List Int) : Prop :=
  (a = none ∧ len = 0 ∧ cap = 0 ∧ zs = []) ∨
  ∃ x, a = some x ∧ len ≤ cap ∧ cap ≤ maxLen ∧ zs.length = cap ∧ (∀ i, i < zs.length → w.cell? (x.add i) = some (.int .u8 (zs.getD i 0))) ∧ ∀ n ∈ zs, (Lit.int .u8 n).wf = true
/-- A code can be read: its bytes lie in a block that is there. -/
def CodeIn (w : World) (K : Code) : Prop :=
  K.len ≤ maxLen ∧ (0 < K.len → ∃ b off, K.A = some ⟨b, off, none⟩ ∧ b < w.heap.size ∧ ∀ j, j < K.len → w.cell? ⟨b, off + j, none⟩ = some (.int .u8 (K.zs.getD j 0)) ∧ 0 ≤ K.zs.getD j 0 ∧ K.zs.getD j 0 ≤ 255)
theorem CodeIn.of_row {w : World} {a : Option Addr} {len cap : Nat} {zs : List Int} (h : IsRow w a len cap zs) : CodeIn w ⟨a, len, cap, zs⟩ := by
  rcases h with ⟨rfl, rfl, rfl, rfl⟩ | ⟨x, rfl, hl, hm, hz, hc, hw⟩
  · exact ⟨Nat.zero_le _, fun h => absurd h (by simp)⟩
  · refine ⟨Nat.le_trans hl hm, fun h => ?_⟩
    simp only at h
    obtain ⟨b, off, spot⟩ := x
    have h0 := hc 0 (by omega)
    have hspot : spot = none := by simpa [Addr.add] using World.cell?_spot h0
    subst hspot
    have hlt : b < w.heap.size := by
      rcases Nat.lt_or_ge b w.heap.size with h1 | h1
      · exact h1
      · have e : w.heap[b]? = none := Array.getElem?_eq_none h1
        simp [Addr.add, World.cell?, e] at h0
    refine ⟨b, off, rfl, hlt, fun j hj => ?_⟩
    simp only at hj
    have hj' : j < zs.length := by omega
    have hcj := hc j hj'
    have e : (⟨b, off, none⟩ : Addr).add j = ⟨b, off + j, none⟩ := by unfold Addr.add; split <;> simp_all
    rw [e] at hcj
    have hwf := hw (zs.getD j 0) (by rw [List.getD_eq_getElem?_getD, List.getElem?_eq_getElem hj']; exact List.getElem_mem hj')
    have hb : 0 ≤ zs.getD j 0 ∧ zs.getD j 0 ≤ 255 := by
      generalize zs.getD j 0 = z at hwf
      simp [Lit.wf] at hwf
      exact hwf
    exact ⟨hcj, hb⟩
theorem CodeIn.below {w w' : World} {K : Code} (h : CodeIn w K) (hb : Below w.heap.size w w') : CodeIn w' K := by
  refine ⟨h.1, fun hp => ?_⟩
  obtain ⟨b, off, e, hlt, hc⟩ := h.2 hp
  exact ⟨b, off, e, Nat.lt_of_lt_of_le hlt hb.size, fun j hj => ⟨(hb.cell (p := ⟨b, off + j, none⟩) hlt).trans (hc j hj).1, (hc j hj).2⟩⟩
/-- The byte of a code at a place, or one that follows from it. -/
def atV (K : Code) (i : Nat) : Nat := if i < K.len then (K.zs.getD i 0).toNat else (i * 37 + K.len * 11) % 256
theorem atV_bd {w : World} {K : Code} (k : CodeIn w K) (i : Nat) : atV K i ≤ 255 := by
  unfold atV
  split
  · rename_i h
    obtain ⟨b, off, hA, hb, hc⟩ := k.2 (by omega)
    have := hc i h
    omega
  · omega
end Go.Proofs.YtmglidfnolmcaaaGreatDoor
/-
  Drawing from a code: each function answers by its cursor's state and the code alone, and turns nothing but its cursor's block.
-/
namespace Go.Proofs.YtmglidfnolmcaaaGreatDoor
open Go.RowKit M
set_option linter.unusedVariables false
/-- A cursor's state: the place and the mixed number. -/
abbrev St := Nat × Int
def Cur (w : World) (g : Nat) (K : Code) (s : St) : Prop := CurAt w g K.A K.len K.cap K.zs s.1 s.2
/-- What a draw leaves: the answer, the cursor in its next state, and all else that was there. -/
def Drawn (w : World) (g : Nat) (K : Code) (v : Value) (s : St) (e : Ending) (w' : World) : Prop := e = .returned v ∧ Cur w' g K s ∧ w.grownBy w' (some g)
def byteS (K : Code) (s : St) : St := (drawI K.len s.1, nextH s.2)
def byteV (K : Code) (s : St) : Int := drawB K.len K.zs s.1 s.2
theorem byteV_bd (K : Code) (s : St) : 0 ≤ byteV K s ∧ byteV K s ≤ 255 := drawB_bd _ _ _ _
theorem byte_any (w : World) (g : Nat) (K : Code) (s : St) (c : Cur w g K s) :
    Calls Tryz.prog 61 #[.pointer (some ⟨g, 0, none⟩)] w (Drawn w g K (.int .i64 (byteV K s)) (byteS K s)) := l1Byte_any w g K.len K.cap s.1 K.A K.zs s.2 c
def belowV (K : Code) (n : Int) (s : St) : Int :=
  if n ≤ 0 then 0 else if n ≤ 256 then byteV K s % n
  else (byteV K s * 16777216 + byteV K (byteS K s) * 65536 + byteV K (byteS K (byteS K s)) * 256 + byteV K (byteS K (byteS K (byteS K s)))) % n
def belowS (K : Code) (n : Int) (s : St) : St := if n ≤ 0 then s else if n ≤ 256 then byteS K s else byteS K (byteS K (byteS K (byteS K s)))
theorem belowV_bd (K : Code) (n : Int) (s : St) (h : 0 < n) : 0 ≤ belowV K n s ∧ belowV K n s < n := by
  unfold belowV
  rw [if_neg (by omega)]
  split
  · exact ⟨Int.emod_nonneg _ (by omega), Int.emod_lt_of_pos _ h⟩
  · exact ⟨Int.emod_nonneg _ (by omega), Int.emod_lt_of_pos _ h⟩
theorem Drawn.mono {w w1 w2 : World} {g : Nat} {K : Code} {s : St} (h1 : w.grownBy w1 (some g)) (h2 : w1.grownBy w2 (some g)) : w.grownBy w2 (some g) := grown_trans h1 h2
set_option maxRecDepth 100000 in
theorem below_any (w : World) (g : Nat) (K : Code) (n : Int) (s : St) (c : Cur w g K s) (h1 : n ≤ 4611686018427387904) :
    Calls Tryz.prog 21 #[.pointer (some ⟨g, 0, none⟩), .int .i64 n] w (Drawn w g K (.int .i64 (belowV K n s)) (belowS K n s)) := by
  by_cases n0 : n ≤ 0
  · have HV := Lib.hid (show belowV K n s = 0 from if_pos n0)
    have HS := Lib.hid (show belowS K n s = s from if_pos n0)
    have C := Lib.hid c
    clear c
    go_enter Tryz.func21, Tryz.ntmps21
    go_wp2
    go_ret
    exact ⟨ret_int HV.out.symm, by rw [HS.out]; exact C.out, World.grownBy.refl _ _⟩
  · by_cases n1 : n ≤ 256
    · have HV := Lib.hid (show belowV K n s = byteV K s % n by unfold belowV; rw [if_neg n0, if_pos n1])
      have HS := Lib.hid (show belowS K n s = byteS K s by unfold belowS; rw [if_neg n0, if_pos n1])
      obtain ⟨b0, b1⟩ := byteV_bd K s
      have HB := Lib.hid (byte_any w g K s c)
      clear c
      go_enter Tryz.func21, Tryz.ntmps21
      go_wp2_with (go_at_call 61; refine HB.out.mono ?_; rintro e w1 ⟨rfl, hc1, hg1⟩; have C1 := Lib.hid hc1; have G1 := Lib.hid hg1; clear hc1 hg1)
      go_ret
      exact ⟨ret_int HV.out.symm, by rw [HS.out]; exact C1.out, G1.out⟩
    · have HV := Lib.hid (show belowV K n s = (byteV K s * 16777216 + byteV K (byteS K s) * 65536 + byteV K (byteS K (byteS K s)) * 256 + byteV K (byteS K (byteS K (byteS K s)))) % n by unfold belowV; rw [if_neg n0, if_neg n1])
      have HS := Lib.hid (show belowS K n s = byteS K (byteS K (byteS K (byteS K s))) by unfold belowS; rw [if_neg n0, if_neg n1])
      obtain ⟨b0, b1⟩ := byteV_bd K s
      obtain ⟨b2, b3⟩ := byteV_bd K (byteS K s)
      obtain ⟨b4, b5⟩ := byteV_bd K (byteS K (byteS K s))
      obtain ⟨b6, b7⟩ := byteV_bd K (byteS K (byteS K (byteS K s)))
      have HB := Lib.hid (byte_any w g K s c)
      clear c
      go_enter Tryz.func21, Tryz.ntmps21
      go_wp2_with fail
      refine HB.out.mono ?_
      rintro e w1 ⟨rfl, hc1, hg1⟩
      have HB1 := Lib.hid (byte_any w1 g K _ hc1)
      have G1 := Lib.hid hg1
      clear hc1 hg1
      go_wp2_with fail
      refine HB1.out.mono ?_
      rintro e w2 ⟨rfl, hc2, hg2⟩
      have HB2 := Lib.hid (byte_any w2 g K _ hc2)
      have G2 := Lib.hid hg2
      clear hc2 hg2
      go_wp2_with fail
      refine HB2.out.mono ?_
      rintro e w3 ⟨rfl, hc3, hg3⟩
      have HB3 := Lib.hid (byte_any w3 g K _ hc3)
      have G3 := Lib.hid hg3
      clear hc3 hg3
      go_wp2_with fail
      refine HB3.out.mono ?_
      rintro e w4 ⟨rfl, hc4, hg4⟩
      have C4 := Lib.hid hc4
      have G4 := Lib.hid hg4
      clear hc4 hg4
      go_wp2_with fail
      go_ret
      exact ⟨ret_int HV.out.symm, by rw [HS.out]; exact C4.out, grown_trans (grown_trans (grown_trans G1.out G2.out) G3.out) G4.out⟩
end Go.Proofs.YtmglidfnolmcaaaGreatDoor
/-
  Drawing a yes or no, and a number of a list: by the cursor's state and the code alone.
-/
namespace Go.Proofs.YtmglidfnolmcaaaGreatDoor
open Go.RowKit M
set_option linter.unusedVariables false
theorem Cur.kept {w w' : World} {g : Nat} {K : Code} {s : St} (c : Cur w g K s) (hg : w.grownBy w' none) : Cur w' g K s := by
  obtain ⟨h1, h2, h3⟩ := c
  have hlt : g < w.heap.size := by
    rcases Nat.lt_or_ge g w.heap.size with h | h
    · exact h
    · rw [Array.getElem?_eq_none h] at h1; cases h1
  refine ⟨(hg.block g hlt (by intro h; cases h)).trans h1, ⟨h2.1, fun h => ?_⟩, h3⟩
  obtain ⟨b, off, e, hb, hc⟩ := h2.2 h
  exact ⟨b, off, e, hb, fun j hj => ⟨hg.cell (hc j hj).1 (by intro h; cases h), (hc j hj).2⟩⟩
theorem Cur.alloc {w : World} {g : Nat} {K : Code} {s : St} (c : Cur w g K s) (o : Obj) : Cur (w.alloc o) g K s := c.kept (World.grownBy_alloc w o none)
theorem Cur.lt {w : World} {g : Nat} {K : Code} {s : St} (c : Cur w g K s) : g < w.heap.size := by
  rcases Nat.lt_or_ge g w.heap.size with h | h
  · exact h
  · have h1 := c.1; rw [Array.getElem?_eq_none h] at h1; cases h1
theorem once_any (w : World) (g : Nat) (K : Code) (n : Int) (s : St) (c : Cur w g K s) (h1 : n ≤ 4611686018427387904) :
    Calls Tryz.prog 20 #[.pointer (some ⟨g, 0, none⟩), .int .i64 n] w (Drawn w g K (.bool (belowV K n s == 0)) (belowS K n s)) := by
  have HB := Lib.hid (below_any w g K n s c h1)
  clear c h1
  go_enter Tryz.func20, Tryz.ntmps20
  go_wp2_with fail
  refine HB.out.mono ?_
  rintro e w1 ⟨rfl, hc1, hg1⟩
  have C1 := Lib.hid hc1
  have G1 := Lib.hid hg1
  clear hc1 hg1
  go_wp2_with fail
  go_ret
  exact ⟨rfl, C1.out, G1.out⟩
theorem pick_any (w : World) (g : Nat) (K : Code) (s : St) (c : Cur w g K s) (b : Nat) (hb : b ≠ g) (ls : List Int) (n : Nat) (hn : ls.length = n) (hn0 : 0 < n) (hn1 : n ≤ 1000000)
    (hc : ∀ j, j < n → w.cell? ⟨b, j, none⟩ = some (.int .i64 (ls.getD j 0))) :
    Calls Tryz.prog 23 #[.pointer (some ⟨g, 0, none⟩), .slice (some ⟨b, 0, none⟩) n n] w (Drawn w g K (.int .i64 (ls.getD (belowV K n s).toNat 0)) (belowS K n s)) := by
  have HB := Lib.hid (below_any w g K n s c (by omega))
  obtain ⟨v0, v1⟩ := belowV_bd K n s (by omega)
  generalize hv : belowV K n s = v at *
  have HV := Lib.hid hv
  clear hv
  obtain ⟨m, rfl⟩ := Int.eq_ofNat_of_zero_le v0
  have hm : m < n := by omega
  have HC := Lib.hid (hc m hm)
  have hne : some (Addr.mk b m none).block ≠ some g := by intro h; exact hb (by injection h)
  clear c hc
  go_enter Tryz.func23, Tryz.ntmps23
  go_wp2_with fail
  refine HB.out.mono ?_
  rintro e w1 ⟨rfl, hc1, hg1⟩
  have hcell := hg1.cell HC.out hne
  have C1 := Lib.hid hc1
  have G1 := Lib.hid hg1
  clear hc1 hg1
  go_wp2_with fail
  go_ret
  exact ⟨ret_int (by simp [List.getElem?_eq_getElem (show m < ls.length by omega)]), C1.out, G1.out⟩
end Go.Proofs.YtmglidfnolmcaaaGreatDoor
/-
  A cursor made new over a code: its first state follows from the code alone; nothing that was there is turned.
-/
namespace Go.Proofs.YtmglidfnolmcaaaGreatDoor
open Go.RowKit M
set_option linter.unusedVariables false
def newHto (K : Code) : Nat → Int
  | 0 => 10101 + (K.len : Int)
  | j + 1 => (newHto K j * 131 + K.zs.getD j 0 + 7) % 1073741824
def newS (K : Code) : St := (0, newHto K (min K.len 4000))
theorem newHto_bd (K : Code) (h : K.len ≤ 1048576) (j : Nat) : 0 ≤ newHto K j ∧ newHto K j < 1073741824 := by
  cases j with
  | zero => simp only [newHto]; omega
  | succ j => simp only [newHto]; omega
theorem i64_and30 (n : Int) : bits .and .i64 n 1073741823 = n % 1073741824 := by
  have h30 : (BitVec.ofInt 64 1073741823).toNat = 2 ^ 30 - 1 := by decide
  have key : (BitVec.ofInt 64 n &&& BitVec.ofInt 64 1073741823).toNat = (n % ((2 ^ 64 : Nat) : Int)).toNat % 2 ^ 30 := by
    rw [BitVec.toNat_and, BitVec.toNat_ofInt, h30, Nat.and_two_pow_sub_one_eq_mod]
  show IntKind.i64.wrap ((BitVec.ofInt 64 n &&& BitVec.ofInt 64 1073741823).toNat : Nat) = n % 1073741824
  rw [key, IntKind.wrap_i64]
  omega
def NewPost (w : World) (K : Code) (e : Ending) (w' : World) : Prop := ∃ g, e = .returned (.pointer (some ⟨g, 0, none⟩)) ∧ w.heap.size ≤ g ∧ Cur w' g K (newS K) ∧ Below w.heap.size w w'
theorem new_done (w : World) (K : Code) (hk : CodeIn w K) (j : Nat) (hj : j = min K.len 4000) :
    NewPost w K (.returned (.pointer (some ⟨w.heap.size, 0, none⟩))) (w.alloc (.cells #[.slice K.A K.len K.cap, .int .i64 0, .int .i64 (newHto K j)] 75)) := by
  subst hj
  refine ⟨w.heap.size, rfl, Nat.le_refl _, ⟨heap_alloc_new w _, ⟨hk.1, fun hp => ?_⟩, Nat.zero_le _⟩, (Below.refl _ _).alloc (Nat.le_refl _) _⟩
  obtain ⟨b, off, e, hb, hc⟩ := hk.2 hp
  exact ⟨b, off, e, by omega, fun j hj => ⟨(((Below.refl w.heap.size w).alloc (Nat.le_refl _) _).cell (p := ⟨b, off + j, none⟩) hb).trans (hc j hj).1, (hc j hj).2⟩⟩
set_option maxRecDepth 100000 in
theorem new_any (w : World) (K : Code) (hk : CodeIn w K) (hl : K.len ≤ 1048576) :
    Calls Tryz.prog 16 #[.slice K.A K.len K.cap] w (NewPost w K) := by
  have HK := Lib.hid hk
  clear hk
  go_enter Tryz.func16, Tryz.ntmps16
  go_wp2
  go_loop [3, 4] (fun h i => ∃ j : Nat, j ≤ K.len ∧ j ≤ 4000 ∧ i = .int .i64 j ∧ h = .int .i64 (newHto K j)) (fun _ i => 4000 - (intOf i).toNat)
  case atStart => exact ⟨0, Nat.zero_le _, Nat.zero_le _, rfl, rfl⟩
  case round =>
    obtain ⟨j, hj, hj4, rfl, rfl⟩ := hrel
    by_cases hlt : j < K.len
    · have hd : decide (j < K.len) = true := by simp; omega
      by_cases h4 : j < 4000
      · have hd4 : decide ((j : Int) < 4000) = true := by simp; omega
        obtain ⟨b, off, hA, hb, hcell⟩ := HK.out.2 (by omega)
        obtain ⟨hz, hz0, hz1⟩ := hcell j hlt
        obtain ⟨n0, n1⟩ := newHto_bd K hl j
        have HN := Lib.hid (show newHto K (j + 1) = (newHto K j * 131 + K.zs.getD j 0 + 7) % 1073741824 from rfl)
        have ha := i64_and30 (newHto K j * 131 + K.zs.getD j 0 + 7)
        rw [hA]
        generalize K.zs.getD j 0 = z at *
        clear hcell
        go_wp2
        go_round
        case rel => exact ⟨j + 1, by omega, by omega, by go_num, by rw [HN.out]⟩
        case measure => simp [intOf]; omega
      · have hd4 : decide ((j : Int) < 4000) = false := by simp; omega
        have HE := Lib.hid (show j = min K.len 4000 by omega)
        go_wp2
        go_ret
        exact new_done w K HK.out j HE.out
    · have hd : decide (j < K.len) = false := by simp; omega
      have HE := Lib.hid (show j = min K.len 4000 by omega)
      go_wp2
      go_ret
      exact new_done w K HK.out j HE.out
end Go.Proofs.YtmglidfnolmcaaaGreatDoor
/-
  Drawing, told in less: some number within its bounds, some truth value; nothing but the cursor's block is turned.
-/
namespace Go.Proofs.YtmglidfnolmcaaaGreatDoor
open Go.RowKit M
set_option linter.unusedVariables false
def SomeI (w : World) (g : Nat) (K : Code) (P : Int → Prop) (e : Ending) (w' : World) : Prop := ∃ x s, P x ∧ e = .returned (.int .i64 x) ∧ Cur w' g K s ∧ w.grownBy w' (some g)
def SomeB (w : World) (g : Nat) (K : Code) (e : Ending) (w' : World) : Prop := ∃ b s, e = .returned (.bool b) ∧ Cur w' g K s ∧ w.grownBy w' (some g)
theorem below_some (w : World) (g : Nat) (K : Code) (n : Int) (s : St) (c : Cur w g K s) (h0 : 0 < n) (h1 : n ≤ 4611686018427387904) :
    Calls Tryz.prog 21 #[.pointer (some ⟨g, 0, none⟩), .int .i64 n] w (SomeI w g K fun x => 0 ≤ x ∧ x < n) :=
  (below_any w g K n s c h1).mono fun _ _ ⟨a, b, d⟩ => ⟨_, _, belowV_bd K n s h0, a, b, d⟩
theorem once_some (w : World) (g : Nat) (K : Code) (n : Int) (s : St) (c : Cur w g K s) (h1 : n ≤ 4611686018427387904) :
    Calls Tryz.prog 20 #[.pointer (some ⟨g, 0, none⟩), .int .i64 n] w (SomeB w g K) :=
  (once_any w g K n s c h1).mono fun _ _ ⟨a, b, d⟩ => ⟨_, _, a, b, d⟩
theorem row_cells (w : World) (ls : List Int) (cs : Array Value) (h : cs = (ls.map (Value.int .i64)).toArray) : ∀ j, j < ls.length → (w.alloc (.cells cs 3)).cell? ⟨w.heap.size, j, none⟩ = some (.int .i64 (ls.getD j 0)) := by
  subst h
  intro j hj
  have e := heap_alloc_new w (.cells (ls.map (Value.int .i64)).toArray 3)
  rw [cell_of_row _ _ j _ _ _ e, List.getElem?_toArray, List.getElem?_map, List.getElem?_eq_getElem hj, List.getD_eq_getElem?_getD, List.getElem?_eq_getElem hj]
  rfl
theorem pick_some (w : World) (g : Nat) (K : Code) (s : St) (c : Cur w g K s) (ls : List Int) (n : Nat) (hn : ls.length = n) (hn0 : 0 < n) (hn1 : n ≤ 1000000) (cs : Array Value) (hcs : cs = (ls.map (Value.int .i64)).toArray) :
    Calls Tryz.prog 23 #[.pointer (some ⟨g, 0, none⟩), .slice (some ⟨w.heap.size, 0, none⟩) n n] (w.alloc (.cells cs 3)) (SomeI w g K fun x => x ∈ ls) := by
  refine (pick_any (w.alloc (.cells cs 3)) g K s (c.alloc _) w.heap.size (by have := c.lt; omega) ls n hn hn0 hn1 (by rw [← hn]; exact row_cells w ls cs hcs)).mono ?_
  rintro e w' ⟨rfl, h1, h2⟩
  have hb := belowV_bd K n s (by omega)
  refine ⟨_, _, ?_, rfl, h1, grown_trans (World.grownBy_alloc _ _ _) h2⟩
  rw [List.getD_eq_getElem?_getD, List.getElem?_eq_getElem (by omega)]
  exact List.getElem_mem _
/-- The code lies below base. -/
def CodeB (K : Code) (base : Nat) : Prop := ∀ a, 0 < K.len → K.A = some a → a.block < base
theorem CodeB.of_in {w : World} {K : Code} (h : CodeIn w K) : CodeB K w.heap.size := by
  intro a hp ha
  obtain ⟨b, off, e, hb, _⟩ := h.2 hp
  rw [e] at ha
  cases ha
  exact hb
theorem CodeB.mono {K : Code} {b b' : Nat} (h : CodeB K b) (hb : b ≤ b') : CodeB K b' := fun a hp ha => Nat.lt_of_lt_of_le (h a hp ha) hb
theorem Cur.setNew {w : World} {g base ga : Nat} {K : Code} {s : St} (c : Cur w g K s) (hK : CodeB K base) (hg : g < base) (hga : base ≤ ga) (j : Nat) (x : Value) : Cur (w.setCell ⟨ga, j, none⟩ x) g K s := by
  obtain ⟨h1, h2, h3⟩ := c
  refine ⟨(Below.heap_setCell w ⟨ga, j, none⟩ x g (show g ≠ ga by omega)).trans h1, ⟨h2.1, fun hp => ?_⟩, h3⟩
  obtain ⟨b, off, e, hb, hc⟩ := h2.2 hp
  have hlt := hK _ hp e
  exact ⟨b, off, e, hb, fun i hi => ⟨(World.cell?_of_block (w := w) (a := ⟨b, off + i, none⟩) (Below.heap_setCell w ⟨ga, j, none⟩ x b (show b ≠ ga by simp at hlt; omega))).trans (hc i hi).1, (hc i hi).2⟩⟩
theorem grown_setNew {w u : World} {g ga : Nat} (h : w.grownBy u (some g)) (hga : w.heap.size ≤ ga) (j : Nat) (x : Value) : w.grownBy (u.setCell ⟨ga, j, none⟩ x) (some g) :=
  ⟨h.os, h.tape, h.output, by simp [World.setCell]; exact h.size, fun k hk hne => (Below.heap_setCell u ⟨ga, j, none⟩ x k (show k ≠ ga by omega)).trans (h.block k hk hne)⟩
/-- A row in a block from base on. -/
def RowN (w : World) (base : Nat) (v : Value) (zs : List Int) : Prop := Ints w v zs ∧ ∃ b, v.ownBlock = some b ∧ base ≤ b
theorem OwnI.rowN {w : World} {base : Nat} {v : Value} {zs : List Int} (h : OwnI w base v zs) : RowN w base v zs := by
  obtain ⟨g, e, h1, _⟩ := h.block
  exact ⟨h.ints, g, e, h1⟩
theorem Ints.kept {w w' : World} {v : Value} {zs : List Int} {g : Nat} (h : Ints w v zs) (hg : w.grownBy w' (some g)) (hne : v.ownBlock ≠ some g) : Ints w' v zs := by
  obtain ⟨b, off, cap, rfl, h1, h2, h3, h4⟩ := h
  exact ⟨b, off, cap, rfl, h1, h2, Nat.lt_of_lt_of_le h3 hg.size, fun j hj => hg.cell (h4 j hj) (fun e => hne e)⟩
theorem RowN.kept {w w' : World} {base : Nat} {v : Value} {zs : List Int} {g : Nat} (h : RowN w base v zs) (hg : w.grownBy w' (some g)) (hb : g < base) : RowN w' base v zs := by
  obtain ⟨h1, b, e, h2⟩ := h
  refine ⟨h1.kept hg (by rw [e]; intro h; injection h with h; omega), b, e, h2⟩
end Go.Proofs.YtmglidfnolmcaaaGreatDoor
/-
  Drawing a text of a list, told in less: some text of the list; nothing but the cursor's block is turned. A draw behind a new cursor, told of the world ahead of it.
-/
namespace Go.Proofs.YtmglidfnolmcaaaGreatDoor
open Go.RowKit M
set_option linter.unusedVariables false
def SomeT (w : World) (g : Nat) (K : Code) (P : ByteArray → Prop) (e : Ending) (w' : World) : Prop := ∃ x s, P x ∧ e = .returned (.string x) ∧ Cur w' g K s ∧ w.grownBy w' (some g)
theorem rowT_cells (w : World) (ls : List ByteArray) (cs : Array Value) (h : cs = (ls.map Value.string).toArray) : ∀ j, j < ls.length → (w.alloc (.cells cs 9)).cell? ⟨w.heap.size, j, none⟩ = some (.string (ls.getD j ⟨#[]⟩)) := by
  subst h
  intro j hj
  have e := heap_alloc_new w (.cells (ls.map Value.string).toArray 9)
  rw [cell_of_row _ _ j _ _ _ e, List.getElem?_toArray, List.getElem?_map, List.getElem?_eq_getElem hj, List.getD_eq_getElem?_getD, List.getElem?_eq_getElem hj]
  rfl
theorem pickT_at (w : World) (g : Nat) (K : Code) (s : St) (c : Cur w g K s) (b : Nat) (hb : b ≠ g) (ls : List ByteArray) (n : Nat) (hn : ls.length = n) (hn0 : 0 < n) (hn1 : n ≤ 1000000)
    (hc : ∀ j, j < n → w.cell? ⟨b, j, none⟩ = some (.string (ls.getD j ⟨#[]⟩))) :
    Calls Tryz.prog 59 #[.pointer (some ⟨g, 0, none⟩), .slice (some ⟨b, 0, none⟩) n n] w (SomeT w g K fun x => x ∈ ls) := by
  have HB := Lib.hid (below_any w g K n s c (by omega))
  obtain ⟨v0, v1⟩ := belowV_bd K n s (by omega)
  generalize belowV K n s = v at *
  obtain ⟨m, rfl⟩ := Int.eq_ofNat_of_zero_le v0
  have hm : m < n := by omega
  have HC := Lib.hid (hc m hm)
  have HM := Lib.hid (show ls.getD m ⟨#[]⟩ ∈ ls by rw [List.getD_eq_getElem?_getD, List.getElem?_eq_getElem (by omega)]; exact List.getElem_mem _)
  have hne : some (Addr.mk b m none).block ≠ some g := by intro h; exact hb (by injection h)
  generalize ls.getD m ⟨#[]⟩ = x at *
  clear c hc
  go_enter Tryz.func59, Tryz.ntmps59
  go_wp2_with fail
  refine HB.out.mono ?_
  rintro e w1 ⟨rfl, hc1, hg1⟩
  have hcell := hg1.cell HC.out hne
  have C1 := Lib.hid hc1
  have G1 := Lib.hid hg1
  clear hc1 hg1
  go_wp2_with fail
  go_ret
  exact ⟨x, _, HM.out, rfl, C1.out, G1.out⟩
theorem pickT_some (w : World) (g : Nat) (K : Code) (s : St) (c : Cur w g K s) (ls : List ByteArray) (n : Nat) (hn : ls.length = n) (hn0 : 0 < n) (hn1 : n ≤ 1000000) (cs : Array Value) (hcs : cs = (ls.map Value.string).toArray) :
    Calls Tryz.prog 59 #[.pointer (some ⟨g, 0, none⟩), .slice (some ⟨w.heap.size, 0, none⟩) n n] (w.alloc (.cells cs 9)) (SomeT w g K fun x => x ∈ ls) := by
  refine (pickT_at (w.alloc (.cells cs 9)) g K s (c.alloc _) w.heap.size (by have := c.lt; omega) ls n hn hn0 hn1 (by rw [← hn]; exact rowT_cells w ls cs hcs)).mono ?_
  rintro e w' ⟨x, s', h1, h2, h3, h4⟩
  exact ⟨x, s', h1, h2, h3, grown_trans (World.grownBy_alloc _ _ _) h4⟩
theorem behind {w w1 w2 : World} {g : Nat} (hg : w.heap.size ≤ g) (h1 : Below w.heap.size w w1) (h2 : w1.grownBy w2 (some g)) : Below w.heap.size w w2 :=
  h1.grown h2 h1.size (by intro k hk; injection hk with hk; omega)
end Go.Proofs.YtmglidfnolmcaaaGreatDoor
/-
  Drawing keys, told in less: some text of at most four (five) bytes, some number.
-/
namespace Go.Proofs.YtmglidfnolmcaaaGreatDoor
open Go.RowKit M
set_option linter.unusedVariables false
theorem all_size {ls : List ByteArray} {n : Nat} (h : (ls.all fun x => decide (x.size ≤ n)) = true) {x : ByteArray} (hx : x ∈ ls) : x.size ≤ n := by
  have := List.all_eq_true.1 h x hx
  simpa using this
theorem l4Key_some (w : World) (g : Nat) (K : Code) (s : St) (c : Cur w g K s) : Calls Tryz.prog 60 #[.pointer (some ⟨g, 0, none⟩)] w (SomeT w g K fun x => x.size ≤ 4) := by
  have HC := Lib.hid c
  clear c
  go_enter Tryz.func60, Tryz.ntmps60
  go_wp2_with fail
  refine (pickT_some w g K s HC.out [⟨#[97]⟩, ⟨#[98]⟩, ⟨#[99, 112, 117]⟩, ⟨#[114, 101, 113]⟩, ⟨#[120, 95, 49]⟩, ⟨#[90, 57]⟩, ⟨#[109, 101, 109]⟩, ⟨#[113]⟩] 8 rfl (by decide) (by decide) _ rfl).mono ?_
  rintro e w1 ⟨x, s1, hx, rfl, hc1, hg1⟩
  have X := Lib.hid (all_size (n := 4) (by decide) hx)
  have C1 := Lib.hid hc1
  have G1 := Lib.hid hg1
  clear hx hc1 hg1
  go_wp2_with fail
  go_ret
  exact ⟨x, s1, X.out, rfl, C1.out, G1.out⟩
theorem l4Any_some (w : World) (g : Nat) (K : Code) (s : St) (c : Cur w g K s) : Calls Tryz.prog 19 #[.pointer (some ⟨g, 0, none⟩)] w (SomeT w g K fun x => x.size ≤ 5) := by
  have HC := Lib.hid c
  clear c
  go_enter Tryz.func19, Tryz.ntmps19
  go_wp2_with fail
  refine (once_some w g K _ s HC.out (by decide)).mono ?_
  rintro e w1 ⟨b, s1, rfl, hc1, hg1⟩
  have C1 := Lib.hid hc1
  have G1 := Lib.hid hg1
  clear hc1 hg1
  cases b with
  | true =>
    go_wp2_with fail
    refine (pickT_some w1 g K s1 C1.out [⟨#[]⟩, ⟨#[97, 98, 99, 100, 101]⟩, ⟨#[97, 32, 98]⟩, ⟨#[97, 58]⟩, ⟨#[0]⟩, ⟨#[97, 98, 99, 100]⟩, ⟨#[255]⟩] 7 rfl (by decide) (by decide) _ rfl).mono ?_
    rintro e w2 ⟨x, s2, hx, rfl, hc2, hg2⟩
    have X := Lib.hid (all_size (n := 5) (by decide) hx)
    have C2 := Lib.hid hc2
    have G2 := Lib.hid (grown_trans G1.out hg2)
    clear hx hc2 hg2
    go_wp2_with fail
    go_ret
    exact ⟨x, s2, X.out, rfl, C2.out, G2.out⟩
  | false =>
    go_wp2_with fail
    refine (l4Key_some w1 g K s1 C1.out).mono ?_
    rintro e w2 ⟨x, s2, hx, rfl, hc2, hg2⟩
    have C2 := Lib.hid hc2
    have G2 := Lib.hid (grown_trans G1.out hg2)
    have X := Lib.hid hx
    clear hx hc2 hg2
    go_wp2_with fail
    go_ret
    exact ⟨x, s2, Nat.le_trans X.out (by decide), rfl, C2.out, G2.out⟩
end Go.Proofs.YtmglidfnolmcaaaGreatDoor
/-
  Drawing cells, a place in them and a number: some cells, some place, some number; nothing that was there is turned but the cursor.
-/
namespace Go.Proofs.YtmglidfnolmcaaaGreatDoor
open Go.RowKit M
set_option linter.unusedVariables false
def CellsAt (w : World) (g : Nat) (K : Code) (i : Value) (wr : World) : Prop :=
  ∃ (m : Nat) (s : St) (zs : List Int), m ≤ 11 ∧ i = .int .i64 m ∧ zs.length = 71 ∧ OwnI wr w.heap.size (.slice (some ⟨w.heap.size, 0, none⟩) 71 71) zs ∧ Cur wr g K s ∧ w.grownBy wr (some g)
def CellsD (w : World) (g : Nat) (K : Code) (e : Ending) (w' : World) : Prop := ∃ v zs s, e = .returned v ∧ RowN w' w.heap.size v zs ∧ zs.length ≤ 71 ∧ Cur w' g K s ∧ w.grownBy w' (some g)
theorem own_new {w u u' : World} {g : Nat} {zs : List Int} (h : OwnI u w.heap.size (.slice (some ⟨w.heap.size, 0, none⟩) 71 71) zs) (hg : u.grownBy u' (some g)) (hlt : g < w.heap.size) : OwnI u' w.heap.size (.slice (some ⟨w.heap.size, 0, none⟩) 71 71) zs :=
  h.kept hg (by show some w.heap.size ≠ some g; intro e; injection e with e; omega)
theorem cells_set {w u : World} {g : Nat} {K : Code} {s : St} {zs : List Int} (hl : zs.length = 71) (ho : OwnI u w.heap.size (.slice (some ⟨w.heap.size, 0, none⟩) 71 71) zs) (hc : Cur u g K s) (hg : w.grownBy u (some g)) (hK : CodeB K w.heap.size) (hlt : g < w.heap.size) (j : Nat) (z : Int) :
    (zs.set j z).length = 71 ∧ OwnI (u.setCell ⟨w.heap.size, j, none⟩ (.int .i64 z)) w.heap.size (.slice (some ⟨w.heap.size, 0, none⟩) 71 71) (zs.set j z) ∧ Cur (u.setCell ⟨w.heap.size, j, none⟩ (.int .i64 z)) g K s ∧ w.grownBy (u.setCell ⟨w.heap.size, j, none⟩ (.int .i64 z)) (some g) :=
  ⟨by simpa using hl, (ho.set j z).1, hc.setNew hK hlt (Nat.le_refl _) j _, grown_setNew hg (Nat.le_refl _) j _⟩
theorem cells_cut {w u : World} {zs : List Int} (hl : zs.length = 71) (ho : OwnI u w.heap.size (.slice (some ⟨w.heap.size, 0, none⟩) 71 71) zs) : RowN u w.heap.size (.slice (some ⟨w.heap.size, 0, none⟩) 70 71) (zs.take 70) := by
  obtain ⟨b, off, cap, e, h1, h2, h3, h4⟩ := ho.ints
  injection e with ea en ec
  injection ea with ea
  injection ea with eb eo
  subst eb eo ec
  refine ⟨⟨w.heap.size, 0, 71, by simp [hl], by simp; omega, h2, h3, fun j hj => ?_⟩, w.heap.size, rfl, Nat.le_refl _⟩
  have hj' : j < 70 := by simp at hj; omega
  rw [h4 j (by omega)]
  simp [List.getD_eq_getElem?_getD, hj']
set_option maxRecDepth 100000 in
set_option maxHeartbeats 1000000 in
theorem cells_some (w : World) (g : Nat) (K : Code) (s : St) (c : Cur w g K s) (hK : CodeB K w.heap.size) :
    Calls Tryz.prog 57 #[.pointer (some ⟨g, 0, none⟩)] w (CellsD w g K) := by
  obtain ⟨i0, hi, hz0, hz1, hz2⟩ := info_parts info_int
  have hlt := c.lt
  have HC := Lib.hid c
  clear c
  go_enter Tryz.func57, Tryz.ntmps57
  go_wp2_with (refine wpList_make_full _ rfl _ _ 24 rfl w.heap.size 3 i0 (.int .i64 0) 1 Tryz.underlying24 hi hz0 hz1 .i64 .i64 _ _ 71 rfl rfl rfl rfl ?m1 ?m2 ?m3 ?_; rotate_left 3; intro w1 hown hg; have HO := Lib.hid (OwnI.made hown); have HG := Lib.hid hg; clear hown hg)
  case m1 => rw [hz2]; omega
  case m2 => unfold maxLen; omega
  case m3 => exact Nat.le_refl _
  clear hi hz0 hz1 hz2
  refine (below_some w1 g K _ s (HC.out.kept HG.out) (by decide) (by decide)).mono ?_
  rintro e w2 ⟨x, s1, ⟨x0, x1⟩, rfl, hc1, hg1⟩
  obtain ⟨m0, rfl⟩ := Int.eq_ofNat_of_zero_le x0
  have HS : Hid (CellsAt w g K (.int .i64 m0) w2) := Lib.hid ⟨m0, s1, _, by omega, rfl, List.length_replicate, own_new HO.out hg1 hlt, hc1, grown_trans ⟨HG.out.os, HG.out.tape, HG.out.output, HG.out.size, fun k hk _ => HG.out.block k hk (by intro h; cases h)⟩ hg1⟩
  clear hc1 hg1 x0
  go_wp2_with fail
  go_loopw [4] (fun i wr => CellsAt w g K i wr) (fun i _ => (intOf i).toNat)
  case atStart => exact HS.out
  case round =>
    obtain ⟨m, s, zs, hm, rfl, hl, ho, hc, hg⟩ := hrel
    have HL := Lib.hid hl
    clear hl
    by_cases hp : 0 < m
    · obtain ⟨k, rfl⟩ : ∃ k, m = k + 1 := ⟨m - 1, by omega⟩
      have O := Lib.hid ho
      have G := Lib.hid hg
      have C := Lib.hid hc
      clear ho hg hc
      go_wp2_with fail
      refine (below_some wr g K _ s C.out (by decide) (by decide)).mono ?_
      rintro e u1 ⟨x, s1, ⟨y0, y1⟩, rfl, hc1, hg1⟩
      obtain ⟨j, rfl⟩ := Int.eq_ofNat_of_zero_le y0
      have hj : j < 71 := by omega
      have O1 := Lib.hid (own_new O.out hg1 hlt)
      have G1 := Lib.hid (grown_trans G.out hg1)
      have C1 := Lib.hid hc1
      clear hc1 hg1 y0 y1
      go_wp2_with fail
      refine (below_some u1 g K _ s1 C1.out (by decide) (by decide)).mono ?_
      rintro e u2 ⟨y, s2, ⟨y0, y1⟩, rfl, hc2, hg2⟩
      have O2 := Lib.hid (own_new O1.out hg2 hlt)
      have G2 := Lib.hid (grown_trans G1.out hg2)
      have C2 := Lib.hid hc2
      clear hc2 hg2
      go_wp2_with fail
      refine (pick_some u2 g K s2 C2.out [1, 2, 281474976710655, y] 4 rfl (by decide) (by decide) _ rfl).mono ?_
      rintro e u3 ⟨z, s3, hz, rfl, hc3, hg3⟩
      have o3 := own_new O2.out hg3 hlt
      have hf := o3.frz j
      obtain ⟨q, hq⟩ : ∃ q, u3.cell? ⟨w.heap.size, j, none⟩ = some q := ⟨_, o3.cell j hj⟩
      have HX := Lib.hid (cells_set HL.out o3 hc3 (grown_trans G2.out hg3) hK hlt j z)
      clear o3 hc3 hg3 hz
      go_wp2
      go_roundw
      case rel => exact ⟨k, s3, _, by omega, by go_num, HX.out.1, HX.out.2.1, HX.out.2.2.1, HX.out.2.2.2⟩
      case measure => simp [intOf]
    · obtain rfl : m = 0 := by omega
      have O := Lib.hid ho
      have G := Lib.hid hg
      have C := Lib.hid hc
      clear ho hg hc
      go_wp2_with fail
      refine (below_some wr g K _ s C.out (by decide) (by decide)).mono ?_
      rintro e u1 ⟨x, s1, ⟨y0, y1⟩, rfl, hc1, hg1⟩
      have O1 := Lib.hid (own_new O.out hg1 hlt)
      have G1 := Lib.hid (grown_trans G.out hg1)
      have C1 := Lib.hid hc1
      clear hc1 hg1
      by_cases e0 : x = 0
      · have t0 : (x == 0) = true := by rw [beq_iff_eq]; exact e0
        clear e0
        go_wp2_with fail
        go_ret
        exact ⟨_, _, s1, rfl, cells_cut HL.out O1.out, by simp; omega, C1.out, G1.out⟩
      · have t0 : (x == 0) = false := by rw [beq_eq_false_iff_ne]; exact e0
        by_cases e1 : x = 1
        · have t1 : (x == 1) = true := by rw [beq_iff_eq]; exact e1
          clear e0 e1
          go_wp2_with fail
          refine (below_some u1 g K _ s1 C1.out (by decide) (by decide)).mono ?_
          rintro e u2 ⟨y, s2, ⟨z0, z1⟩, rfl, hc2, hg2⟩
          obtain ⟨j, rfl⟩ := Int.eq_ofNat_of_zero_le z0
          have hj : j < 71 := by omega
          have O2 := Lib.hid (own_new O1.out hg2 hlt)
          have G2 := Lib.hid (grown_trans G1.out hg2)
          have C2 := Lib.hid hc2
          clear hc2 hg2 z0 z1
          go_wp2_with fail
          refine (pick_some u2 g K s2 C2.out [-1, 281474976710656] 2 rfl (by decide) (by decide) _ rfl).mono ?_
          rintro e u3 ⟨z, s3, hz, rfl, hc3, hg3⟩
          have o3 := own_new O2.out hg3 hlt
          have hf := o3.frz j
          obtain ⟨q, hq⟩ : ∃ q, u3.cell? ⟨w.heap.size, j, none⟩ = some q := ⟨_, o3.cell j hj⟩
          have HX := Lib.hid (cells_set HL.out o3 hc3 (grown_trans G2.out hg3) hK hlt j z)
          clear o3 hc3 hg3 hz
          go_wp2_with fail
          go_ret
          exact ⟨_, _, s3, rfl, HX.out.2.1.rowN, by have := HX.out.1; omega, HX.out.2.2.1, HX.out.2.2.2⟩
        · have t1 : (x == 1) = false := by rw [beq_eq_false_iff_ne]; exact e1
          clear e0 e1
          go_wp2_with fail
          go_ret
          exact ⟨_, _, s1, rfl, O1.out.rowN, by have := HL.out; omega, C1.out, G1.out⟩
/-- Some row, some place, some number. -/
def DrawnRow (w : World) (e : Ending) (w' : World) : Prop := ∃ v zs i n, e = .returned (.tuple #[v, .int .i64 i, .int .i64 n]) ∧ RowN w' w.heap.size v zs ∧ zs.length ≤ 71 ∧ Below w.heap.size w w'
theorem new_then' {w w1 w2 : World} {g : Nat} (hg : w.heap.size ≤ g) (h1 : Below w.heap.size w w1) (h2 : w1.grownBy w2 (some g)) : Below w.heap.size w w2 :=
  h1.grown h2 h1.size (by intro k hk; injection hk with hk; omega)
theorem RowN.mono {w : World} {b b' : Nat} {v : Value} {zs : List Int} (h : RowN w b v zs) (hb : b' ≤ b) : RowN w b' v zs := by
  obtain ⟨h1, x, h2, h3⟩ := h
  exact ⟨h1, x, h2, Nat.le_trans hb h3⟩
end Go.Proofs.YtmglidfnolmcaaaGreatDoor
/-
  Chapter 7's draws, told in less: some row whose numbers are small. The draw's own blocks (the row, the answer's place) are carried beside the cursor.
-/
namespace Go.Proofs.YtmglidfnolmcaaaGreatDoor
open Go.RowKit M
set_option linter.unusedVariables false
theorem l5Val_some (w : World) (g : Nat) (K : Code) (s : St) (c : Cur w g K s) : Calls Tryz.prog 22 #[.pointer (some ⟨g, 0, none⟩)] w (SomeI w g K fun x => 0 ≤ x ∧ x ≤ 65535) := by
  have H1 := Lib.hid (below_some w g K 60000 s c (by decide) (by decide))
  clear c
  go_enter Tryz.func22, Tryz.ntmps22
  go_wp2_with fail
  refine H1.out.mono ?_
  rintro e w1 ⟨x, s1, hx, rfl, hc1, hg1⟩
  have X := Lib.hid hx
  have G1 := Lib.hid hg1
  have H2 := Lib.hid (below_some w1 g K 100 s1 hc1 (by decide) (by decide))
  clear hx hc1 hg1
  go_wp2_with fail
  refine H2.out.mono ?_
  rintro e w2 ⟨y, s2, hy, rfl, hc2, hg2⟩
  have Y := Lib.hid hy
  have G2 := Lib.hid (grown_trans G1.out hg2)
  have HP := Lib.hid (pick_some w2 g K s2 hc2 [0, 1, 5, 65535, x, y] 6 rfl (by decide) (by decide) _ rfl)
  clear hy hc2 hg2
  go_wp2_with fail
  refine HP.out.mono ?_
  rintro e w3 ⟨z, s3, hz, rfl, hc3, hg3⟩
  have Z : 0 ≤ z ∧ z ≤ 65535 := by have := X.out; have := Y.out; simp at hz; omega
  have C3 := Lib.hid hc3
  have G3 := Lib.hid (grown_trans G2.out hg3)
  clear hz hc3 hg3
  go_wp2_with fail
  go_ret
  exact ⟨z, s3, Z, rfl, C3.out, G3.out⟩
/-- The row's key is short and its numbers are far from an int's bounds. -/
structure Small (r : R) : Prop where
  key : r.key.size ≤ 5
  kind : -1000000000000000 ≤ r.kind ∧ r.kind ≤ 1000000000000000
  sum : -1000000000000000 ≤ r.sum ∧ r.sum ≤ 1000000000000000
  last : -1000000000000000 ≤ r.last ∧ r.last ≤ 1000000000000000
  n : -1000000000000000 ≤ r.n ∧ r.n ≤ 1000000000000000
  mn : -1000000000000000 ≤ r.mn ∧ r.mn ≤ 1000000000000000
  mx : -1000000000000000 ≤ r.mx ∧ r.mx ≤ 1000000000000000
  total : -1000000000000000 ≤ r.total ∧ r.total ≤ 1000000000000000
  dropped : -1000000000000000 ≤ r.dropped ∧ r.dropped ≤ 1000000000000000
theorem Small.fit {r : R} (h : Small r) : r.Fit := by
  obtain ⟨h0, h1, h2, h3, h4, h5, h6, h7, h8⟩ := h
  constructor <;> (try unfold inW) <;> (try unfold maxLen) <;> omega
/-- A step that leaves room: the bounds a row keeps while samples are added, and one more may be added to each field. -/
structure Tight (r : R) : Prop where
  key : r.key.size ≤ 4
  kind : 1 ≤ r.kind ∧ r.kind ≤ 3
  sum : 0 ≤ r.sum ∧ r.sum ≤ 281474976710655
  last : 0 ≤ r.last ∧ r.last ≤ 65535
  n : 0 ≤ r.n ∧ r.n ≤ 3
  mn : 0 ≤ r.mn ∧ r.mn ≤ 65535
  mx : 0 ≤ r.mx ∧ r.mx ≤ 65535
  total : 0 ≤ r.total ∧ r.total ≤ 262140
  dropped : 0 ≤ r.dropped ∧ r.dropped ≤ 65535
theorem Tight.small {r : R} (h : Tight r) : Small r := by
  obtain ⟨h0, h1, h2, h3, h4, h5, h6, h7, h8⟩ := h
  constructor <;> omega
theorem Tight.sampled {r : R} (h : Tight r) (v : Int) : Tight (sampledV r v) := by
  unfold sampledV
  split
  · rename_i hc
    obtain ⟨h0, h1, h2, h3, h4, h5, h6, h7, h8⟩ := h
    have tf := timer_facts hc.1 hc.2.1
    split
    · constructor <;> simp only <;> (first | assumption | (split <;> omega))
    · split
      · constructor <;> simp only <;> (first | assumption | omega)
      · constructor <;> simp only <;> (first | assumption | (split <;> omega) | omega)
  · exact h
theorem Cur.setAway {w : World} {g base ga : Nat} {K : Code} {s : St} (c : Cur w g K s) (hK : CodeB K base) (hg : g ≠ ga) (hga : base ≤ ga) (j : Nat) (x : Value) : Cur (w.setCell ⟨ga, j, none⟩ x) g K s := by
  obtain ⟨h1, h2, h3⟩ := c
  refine ⟨(Below.heap_setCell w ⟨ga, j, none⟩ x g hg).trans h1, ⟨h2.1, fun hp => ?_⟩, h3⟩
  obtain ⟨b, off, e, hb, hc⟩ := h2.2 hp
  have hlt := hK _ hp e
  exact ⟨b, off, e, hb, fun i hi => ⟨(World.cell?_of_block (w := w) (a := ⟨b, off + i, none⟩) (Below.heap_setCell w ⟨ga, j, none⟩ x b (show b ≠ ga by simp at hlt; omega))).trans (hc i hi).1, (hc i hi).2⟩⟩
/-- The world of a draw that holds a row: the cursor stands, the row lies in block gr, the answer's place (a row of zeros) in block o; all else is as it was in w. -/
def D7 (w : World) (g : Nat) (K : Code) (o gr : Nat) (r : R) (u : World) : Prop :=
  ((∃ s, Cur u g K s) ∧ w.grownBy u (some g)) ∧ (RowAt u o zeroR ∧ RowAt u gr r) ∧ (CodeB K w.heap.size ∧ g ≠ o ∧ g ≠ gr) ∧ w.heap.size ≤ o ∧ w.heap.size ≤ gr ∧ o ≠ gr
theorem RowAt.kept {w w' : World} {g k : Nat} {r : R} (h : RowAt w g r) (hg : w.grownBy w' (some k)) (hne : g ≠ k) : RowAt w' g r :=
  (hg.block g h.lt (fun e => hne (Option.some.inj e))).trans h
theorem D7.cur {w u : World} {g : Nat} {K : Code} {o gr : Nat} {r : R} (h : D7 w g K o gr r u) : ∃ s, Cur u g K s := h.1.1
theorem D7.call {w u u' : World} {g : Nat} {K : Code} {o gr : Nat} {r : R} (h : D7 w g K o gr r u) (s : St) (hc : Cur u' g K s) (hg : u.grownBy u' (some g)) : D7 w g K o gr r u' := by
  obtain ⟨⟨_, h1⟩, ⟨h2, h3⟩, ⟨h4, h5⟩, h6, h7, h8⟩ := h
  exact ⟨⟨⟨s, hc⟩, grown_trans h1 hg⟩, ⟨h2.kept hg (fun e => h5.1 e.symm), h3.kept hg (fun e => h5.2 e.symm)⟩, ⟨h4, h5⟩, h6, h7, h8⟩
theorem D7.below {w u u' : World} {g : Nat} {K : Code} {o gr : Nat} {r : R} (h : D7 w g K o gr r u) (hb : Below u.heap.size u u') : D7 w g K o gr r u' := by
  obtain ⟨s, hc⟩ := h.cur
  have hg : u.grownBy u' none := ⟨hb.os, hb.tape, hb.output, hb.size, fun i hi _ => hb.block i hi⟩
  exact h.call s (hc.kept hg) ⟨hg.os, hg.tape, hg.output, hg.size, fun i hi _ => hg.block i hi (by intro e; cases e)⟩
theorem D7.store {w u : World} {g : Nat} {K : Code} {o gr : Nat} {r : R} (h : D7 w g K o gr r u) (i : Nat) (v : Value) (r' : R) (e : (rowCells r).setIfInBounds i v = rowCells r') : D7 w g K o gr r' (u.setCell ⟨gr, i, none⟩ v) := by
  obtain ⟨⟨⟨s, hc⟩, h1⟩, ⟨h2, h3⟩, ⟨h4, h5⟩, h6, h7, h8⟩ := h
  exact ⟨⟨⟨s, hc.setAway h4 h5.2 h7 i v⟩, grown_setNew h1 h7 i v⟩, ⟨h2.far gr i v h8, h3.store i v r' e⟩, ⟨h4, h5⟩, h6, h7, h8⟩
theorem D7.get {w u : World} {g : Nat} {K : Code} {o gr : Nat} {r : R} (h : D7 w g K o gr r u) : RowAt u o zeroR ∧ RowAt u gr r := h.2.1
/-- Ten stores of a row into the row's own block. -/
theorem D7.fill {w u : World} {g : Nat} {K : Code} {o gr : Nat} {z : R} (h : D7 w g K o gr z u) (r : R) :
    D7 w g K o gr r ((((((((((u.setCell ⟨gr, 0, none⟩ (.string r.key)).setCell ⟨gr, 1, none⟩ (.int .i64 r.kind)).setCell ⟨gr, 2, none⟩ (.int .i64 r.sum)).setCell ⟨gr, 3, none⟩ (.bool r.set)).setCell ⟨gr, 4, none⟩ (.int .i64 r.last)).setCell ⟨gr, 5, none⟩ (.int .i64 r.n)).setCell ⟨gr, 6, none⟩ (.int .i64 r.mn)).setCell ⟨gr, 7, none⟩ (.int .i64 r.mx)).setCell ⟨gr, 8, none⟩ (.int .i64 r.total)).setCell ⟨gr, 9, none⟩ (.int .i64 r.dropped)) := by
  obtain ⟨key, kind, sum, st, last, n, mn, mx, total, dropped⟩ := r
  obtain ⟨zkey, zkind, zsum, zst, zlast, zn, zmn, zmx, ztotal, zdropped⟩ := z
  exact (((((((((h.store 0 _ ⟨key, zkind, zsum, zst, zlast, zn, zmn, zmx, ztotal, zdropped⟩ rfl).store 1 _ ⟨key, kind, zsum, zst, zlast, zn, zmn, zmx, ztotal, zdropped⟩ rfl).store 2 _ ⟨key, kind, sum, zst, zlast, zn, zmn, zmx, ztotal, zdropped⟩ rfl).store 3 _ ⟨key, kind, sum, st, zlast, zn, zmn, zmx, ztotal, zdropped⟩ rfl).store 4 _ ⟨key, kind, sum, st, last, zn, zmn, zmx, ztotal, zdropped⟩ rfl).store 5 _ ⟨key, kind, sum, st, last, n, zmn, zmx, ztotal, zdropped⟩ rfl).store 6 _ ⟨key, kind, sum, st, last, n, mn, zmx, ztotal, zdropped⟩ rfl).store 7 _ ⟨key, kind, sum, st, last, n, mn, mx, ztotal, zdropped⟩ rfl).store 8 _ ⟨key, kind, sum, st, last, n, mn, mx, total, zdropped⟩ rfl).store 9 _ ⟨key, kind, sum, st, last, n, mn, mx, total, dropped⟩ rfl
theorem wp_d7 {C : Go.Code} {Q : Exit → Act → World → Prop} {a : Act} {w u : World} {g : Nat} {K : Code} {o gr : Nat} {r : R} {i : Nat} {v : Value} (r' : R) (h : D7 w g K o gr r u)
    (e : (rowCells r).setIfInBounds i v = rowCells r') (k : ∀ u', D7 w g K o gr r' u' → Go.Code.wp Tryz.prog C Q a u') : Go.Code.wp Tryz.prog C Q a (u.setCell ⟨gr, i, none⟩ v) := k _ (h.store i v r' e)
/-- Some row; nothing but the cursor's block is turned. -/
def SomeR (w : World) (g : Nat) (K : Code) (P : R → Prop) (e : Ending) (w' : World) : Prop := ∃ r s, P r ∧ e = .returned r.v ∧ Cur w' g K s ∧ w.grownBy w' (some g)
/-- The answer is laid into its place. -/
theorem D7.answer {w u : World} {g : Nat} {K : Code} {o gr : Nat} {r : R} (h : D7 w g K o gr r u) (v0 v1 v2 v3 v4 v5 v6 v7 v8 v9 : Value) :
    ∃ s, Cur ((((((((((u.setCell ⟨o, 0, none⟩ v0).setCell ⟨o, 1, none⟩ v1).setCell ⟨o, 2, none⟩ v2).setCell ⟨o, 3, none⟩ v3).setCell ⟨o, 4, none⟩ v4).setCell ⟨o, 5, none⟩ v5).setCell ⟨o, 6, none⟩ v6).setCell ⟨o, 7, none⟩ v7).setCell ⟨o, 8, none⟩ v8).setCell ⟨o, 9, none⟩ v9) g K s ∧
      w.grownBy ((((((((((u.setCell ⟨o, 0, none⟩ v0).setCell ⟨o, 1, none⟩ v1).setCell ⟨o, 2, none⟩ v2).setCell ⟨o, 3, none⟩ v3).setCell ⟨o, 4, none⟩ v4).setCell ⟨o, 5, none⟩ v5).setCell ⟨o, 6, none⟩ v6).setCell ⟨o, 7, none⟩ v7).setCell ⟨o, 8, none⟩ v8).setCell ⟨o, 9, none⟩ v9) (some g) := by
  obtain ⟨⟨⟨s, hc⟩, h1⟩, _, ⟨h4, h5⟩, h6, h7, h8⟩ := h
  refine ⟨s, ?_, ?_⟩
  · exact (((((((((hc.setAway h4 h5.1 h6 0 v0).setAway h4 h5.1 h6 1 v1).setAway h4 h5.1 h6 2 v2).setAway h4 h5.1 h6 3 v3).setAway h4 h5.1 h6 4 v4).setAway h4 h5.1 h6 5 v5).setAway h4 h5.1 h6 6 v6).setAway h4 h5.1 h6 7 v7).setAway h4 h5.1 h6 8 v8).setAway h4 h5.1 h6 9 v9
  · exact grown_setNew (grown_setNew (grown_setNew (grown_setNew (grown_setNew (grown_setNew (grown_setNew (grown_setNew (grown_setNew (grown_setNew h1 h6 0 v0) h6 1 v1) h6 2 v2) h6 3 v3) h6 4 v4) h6 5 v5) h6 6 v6) h6 7 v7) h6 8 v8) h6 9 v9
end Go.Proofs.YtmglidfnolmcaaaGreatDoor
/-
  Chapter 7 on rows of rows, in plain words and the model's: SameReport, ReportOk.
-/
namespace Go.Proofs.YtmglidfnolmcaaaGreatDoor
open Go.RowKit M
set_option linter.unusedVariables false
def sameRV (xs ys : List R) : Bool := decide (xs = ys)
def EqTo (xs ys : List R) (j : Nat) : Prop := ∀ m, m < j → xs.getD m zeroR = ys.getD m zeroR
theorem EqTo.zero (xs ys : List R) : EqTo xs ys 0 := fun m h => absurd h (Nat.not_lt_zero _)
theorem EqTo.next {xs ys : List R} {j : Nat} (h : EqTo xs ys j) (k : xs.getD j zeroR = ys.getD j zeroR) : EqTo xs ys (j + 1) := fun m hm => by
  by_cases e : m = j
  · subst e; exact k
  · exact h m (by omega)
theorem EqTo.all {xs ys : List R} (hl : xs.length = ys.length) (h : EqTo xs ys xs.length) : sameRV xs ys = true := by
  apply decide_eq_true
  apply List.ext_getElem? 
  intro i
  by_cases hi : i < xs.length
  · have := h i hi
    rw [List.getD_eq_getElem?_getD, List.getD_eq_getElem?_getD, List.getElem?_eq_getElem hi, List.getElem?_eq_getElem (by omega)] at this
    rw [List.getElem?_eq_getElem hi, List.getElem?_eq_getElem (by omega)]
    exact congrArg some this
  · rw [List.getElem?_eq_none (by omega), List.getElem?_eq_none (by omega)]
theorem sameRV_len {xs ys : List R} (hl : xs.length ≠ ys.length) : sameRV xs ys = false := decide_eq_false fun e => hl (by rw [e])
theorem sameRV_ne {xs ys : List R} {j : Nat} (h : xs.getD j zeroR ≠ ys.getD j zeroR) : sameRV xs ys = false := decide_eq_false fun e => h (by rw [e])
set_option maxRecDepth 100000 in
set_option maxHeartbeats 4000000 in
theorem sSameReport_any (w : World) (v u : Value) (xs ys : List R) (h : RowsArg w v xs) (k : RowsArg w u ys) : Calls Tryz.prog 13 #[v, u] w (Gives (.bool (sameRV xs ys)) w) := by
  obtain ⟨A, cap, rfl, h1, h2, h3⟩ := h
  obtain ⟨A', cap', rfl, k1, k2, k3⟩ := k
  unfold maxLen at h2 k2
  by_cases hl : xs.length = ys.length
  case neg =>
    have HE := Lib.hid (sameRV_len hl)
    have d : ((xs.length : Int) == (ys.length : Int)) = false := by rw [beq_eq_false_iff_ne]; omega
    generalize xs.length = n at *
    generalize ys.length = m at *
    clear h3 k3
    go_enter Tryz.func13, Tryz.ntmps13
    go_wp2_with fail
    go_ret
    exact ⟨ret_bool HE.out.symm, Below.refl _ _⟩
  have HALL := Lib.hid (fun (q : EqTo xs ys xs.length) => EqTo.all hl q)
  rw [← hl] at k1 k3 ⊢
  generalize hn : xs.length = n at *
  clear hn hl
  have H4 := Lib.hid h3
  have K4 := Lib.hid k3
  clear h3 k3
  go_enter Tryz.func13, Tryz.ntmps13
  go_wp2_with fail
  go_loopw [5] (fun i wr => ∃ j : Nat, j ≤ n ∧ i = .int .i64 j ∧ EqTo xs ys j ∧ Below w.heap.size w wr) (fun i _ => n - (intOf i).toNat)
  case atStart => exact ⟨0, Nat.zero_le _, rfl, EqTo.zero _ _, Below.refl _ _⟩
  case round =>
    obtain ⟨j, hj, rfl, he, hbl⟩ := hrel
    have HQ := Lib.hid he
    clear he
    by_cases hlt : j < n
    · obtain ⟨b, off, rfl, hb, hc⟩ := H4.out (by omega)
      obtain ⟨b', off', rfl, hb', hc'⟩ := K4.out (by omega)
      obtain ⟨x0, x1, x2, x3, x4, x5, x6, x7, x8, x9⟩ := ((hc j hlt).below hb hbl).get
      obtain ⟨y0, y1, y2, y3, y4, y5, y6, y7, y8, y9⟩ := ((hc' j hlt).below hb' hbl).get
      have HB := Lib.hid hbl
      clear hc hc' hbl
      by_cases hr : xs.getD j zeroR = ys.getD j zeroR
      · have HN := Lib.hid (HQ.out.next hr)
        rw [← hr] at y0 y1 y2 y3 y4 y5 y6 y7 y8 y9
        generalize xs.getD j zeroR = r at *
        clear hr
        obtain ⟨key, kind, sum, st, last, n', mn, mx, total, dropped⟩ := r
        simp only at *
        go_wp2_with fail
        go_quiet (fail)
        go_wp2_with fail
        go_roundw
        case rel => exact ⟨j + 1, by omega, by go_num, HN.out, HB.out.trans ⟨rfl, rfl, rfl, Nat.le_refl _, fun _ _ => rfl⟩⟩
        case measure => simp [intOf]; omega
      · have HN := Lib.hid (sameRV_ne hr)
        have HR := Lib.hid hr
        generalize xs.getD j zeroR = r at *
        generalize ys.getD j zeroR = r' at *
        have hne := fun W => neq_row W r r' hr
        clear hr
        obtain ⟨key, kind, sum, st, last, n', mn, mx, total, dropped⟩ := r
        obtain ⟨key', kind', sum', st', last', n'', mn', mx', total', dropped'⟩ := r'
        unfold R.v at hne
        simp only at *
        go_wp2_with fail
        go_quiet (fail)
        go_wp2_with fail
        go_ret
        exact ⟨ret_bool HN.out.symm, HB.out.trans ⟨rfl, rfl, rfl, Nat.le_refl _, fun _ _ => rfl⟩⟩
    · have hjn : j = n := by omega
      subst hjn
      have HN := Lib.hid (HALL.out HQ.out)
      have HB := Lib.hid hbl
      clear hbl
      go_wp2_with fail
      go_ret
      exact ⟨ret_bool HN.out.symm, HB.out⟩
end Go.Proofs.YtmglidfnolmcaaaGreatDoor
/-
  The laws' comparison of two rows of numbers that are alike; rows that compare as alike; a slice's head.
-/
namespace Go.Proofs.YtmglidfnolmcaaaGreatDoor
open Go.RowKit M
set_option linter.unusedVariables false
theorem neq_same (w : World) (r : R) : (binOp .neq 33 r.v r.v).run Tryz.prog w = .ok (.bool false) w := by
  obtain ⟨key, kind, sum, st, last, n', mn, mx, total, dropped⟩ := r
  unfold R.v
  simp only
  rw [run_neq_struct, run_equalIn_struct _ _ _ _ _ (by kernel_rfl) stood_row]
  simp [go_sem]
/-- The first k cells of a row. -/
theorem Ints.head {w : World} {b off n cap : Nat} {zs : List Int} (h : Ints w (.slice (some ⟨b, off, none⟩) n cap) zs) (k : Nat) (hk : k ≤ n) : Ints w (.slice (some ⟨b, off, none⟩) k cap) (zs.take k) := by
  have := h.part 0 k (by omega)
  simpa using this
/-- A cell of a row that was there before. -/
theorem ints_cell {w wr : World} {b off n cap : Nat} {zs : List Int} (hz : Ints w (.slice (some ⟨b, off, none⟩) n cap) zs) (hb : Below w.heap.size w wr) (j : Nat) (hj : j < zs.length) : wr.cell? ⟨b, off + j, none⟩ = some (.int .i64 (zs.getD j 0)) := by
  obtain ⟨b', off', cap', e, _, _, _, h4⟩ := hz.below hb
  injection e with e1 _ _
  injection e1 with e1
  injection e1 with e1 e2 _
  subst e1; subst e2
  exact h4 j hj
theorem wp_row_new {C : Go.Code} {Q : Exit → Act → World → Prop} {a : Act} {w u : World} (r : R) (hb : Below w.heap.size w u)
    (k : ∀ u', Below w.heap.size w u' → RowAt u' u.heap.size r → Go.Code.wp Tryz.prog C Q a u') : Go.Code.wp Tryz.prog C Q a (u.alloc (.cells (rowCells r) 33)) :=
  k _ (hb.alloc hb.size _) (rowAt_new u _ r rfl)
theorem quiet_gives {P : Program} {f : FuncId} {vs : Array Value} {w : World} {v : Value} (h : Calls P f vs w (Quiet w v)) : Calls P f vs w (Gives v w) := h.mono fun _ _ hq => hq.below
end Go.Proofs.YtmglidfnolmcaaaGreatDoor
/-
  Chapter 5's draws, told in less: some text and some kind; two numbers.
-/
namespace Go.Proofs.YtmglidfnolmcaaaGreatDoor
open Go.RowKit M
set_option linter.unusedVariables false
/-- Some text and some kind; nothing that was there is turned. -/
def GivesTI (w : World) (e : Ending) (w' : World) : Prop := ∃ (x : ByteArray) (k : Int), x.size ≤ 5 ∧ (0 ≤ k ∧ k ≤ 4) ∧ e = .returned (.tuple #[.string x, .int .i64 k]) ∧ Below w.heap.size w w'
/-- Two numbers; nothing that was there is turned. -/
def GivesII (w : World) (e : Ending) (w' : World) : Prop := ∃ a b : Int, (-1 ≤ a ∧ a ≤ 65536) ∧ (-1 ≤ b ∧ b ≤ 65536) ∧ e = .returned (.tuple #[.int .i64 a, .int .i64 b]) ∧ Below w.heap.size w w'
end Go.Proofs.YtmglidfnolmcaaaGreatDoor
/-
  Chapter 7's draws, told in less: some row, small; some row and some number.
-/
namespace Go.Proofs.YtmglidfnolmcaaaGreatDoor
open Go.RowKit M
set_option linter.unusedVariables false
set_option linter.unusedSimpArgs false
theorem wp_d7_fill {C : Go.Code} {Q : Exit → Act → World → Prop} {a : Act} {w u : World} {g : Nat} {K : Code} {o gr : Nat} {z : R} (r : R) (h : D7 w g K o gr z u) (k : ∀ u', D7 w g K o gr r u' → Go.Code.wp Tryz.prog C Q a u') :
    Go.Code.wp Tryz.prog C Q a ((((((((((u.setCell ⟨gr, 0, none⟩ (.string r.key)).setCell ⟨gr, 1, none⟩ (.int .i64 r.kind)).setCell ⟨gr, 2, none⟩ (.int .i64 r.sum)).setCell ⟨gr, 3, none⟩ (.bool r.set)).setCell ⟨gr, 4, none⟩ (.int .i64 r.last)).setCell ⟨gr, 5, none⟩ (.int .i64 r.n)).setCell ⟨gr, 6, none⟩ (.int .i64 r.mn)).setCell ⟨gr, 7, none⟩ (.int .i64 r.mx)).setCell ⟨gr, 8, none⟩ (.int .i64 r.total)).setCell ⟨gr, 9, none⟩ (.int .i64 r.dropped)) := k _ (h.fill r)
theorem wp_d7_new {C : Go.Code} {Q : Exit → Act → World → Prop} {a : Act} {w u : World} {g : Nat} {K : Code} {o : Nat} {s : St} (r : R) (hc : Cur u g K s) (h1 : w.grownBy u (some g)) (hz : RowAt u o zeroR) (hB : CodeB K w.heap.size) (hg : g ≠ o) (ho : w.heap.size ≤ o)
    (k : ∀ u', D7 w g K o u.heap.size r u' → Go.Code.wp Tryz.prog C Q a u') : Go.Code.wp Tryz.prog C Q a (u.alloc (.cells (rowCells r) 33)) :=
  k _ ⟨⟨⟨s, hc.alloc _⟩, grown_trans h1 (World.grownBy_alloc _ _ _)⟩, ⟨hz.alloc _, rowAt_new u _ r rfl⟩, ⟨hB, hg, Nat.ne_of_lt hc.lt⟩, ho, h1.size, Nat.ne_of_lt hz.lt⟩
/-- A sample more, told in less. -/
def SomeRow (w : World) (P : R → Prop) (e : Ending) (w' : World) : Prop := ∃ (key : ByteArray) (kind sum : Int) (st : Bool) (last n mn mx total dropped : Int), P ⟨key, kind, sum, st, last, n, mn, mx, total, dropped⟩ ∧ e = .returned (.agg #[.string key, .int .i64 kind, .int .i64 sum, .bool st, .int .i64 last, .int .i64 n, .int .i64 mn, .int .i64 mx, .int .i64 total, .int .i64 dropped]) ∧ Below w.heap.size w w'
theorem sampled_tight (w : World) (key : ByteArray) (kind sum : Int) (st : Bool) (last n mn mx total dropped v : Int) (h : Tight ⟨key, kind, sum, st, last, n, mn, mx, total, dropped⟩) :
    Calls Tryz.prog 87 #[.agg #[.string key, .int .i64 kind, .int .i64 sum, .bool st, .int .i64 last, .int .i64 n, .int .i64 mn, .int .i64 mx, .int .i64 total, .int .i64 dropped], .int .i64 v] w (SomeRow w Tight) := by
  refine (sSampled_any w ⟨key, kind, sum, st, last, n, mn, mx, total, dropped⟩ v (by have := h.key; unfold maxLen; simp only at this ⊢; omega)).mono ?_
  rintro e w' ⟨rfl, hb⟩
  have ht := h.sampled v
  generalize sampledV ⟨key, kind, sum, st, last, n, mn, mx, total, dropped⟩ v = r at *
  obtain ⟨key, kind, sum, st, last, n, mn, mx, total, dropped⟩ := r
  exact ⟨_, _, _, _, _, _, _, _, _, _, ht, rfl, hb⟩
end Go.Proofs.YtmglidfnolmcaaaGreatDoor
/-
  Chapter 7's draws: some row, small, and some number.
-/
namespace Go.Proofs.YtmglidfnolmcaaaGreatDoor
open Go.RowKit M
set_option linter.unusedVariables false
set_option linter.unusedSimpArgs false
/-- Some row, small, and some number; nothing that was there is turned. -/
def GivesRI (w : World) (e : Ending) (w' : World) : Prop := ∃ (r : R) (v : Int), Small r ∧ (-1 ≤ v ∧ v ≤ 65536) ∧ e = .returned (.tuple #[r.v, .int .i64 v]) ∧ Below w.heap.size w w'

end Go.Proofs.YtmglidfnolmcaaaGreatDoor
/-
  What a sample and a count make of a valid row: a valid row, its numbers as promised.
-/
namespace Go.Proofs.YtmglidfnolmcaaaGreatDoor
open Go.RowKit M
set_option linter.unusedVariables false
theorem rowOk_timer {r : R} (hk : r.kind = 3) : rowOkV r = true ↔ keyOkV r.key = true ∧ (r.sum = 0 ∧ r.set = false ∧ r.last = 0) ∧ timerV r = true := by
  unfold rowOkV
  rw [if_neg (by omega), if_neg (by omega), if_pos hk, Bool.and_eq_true, Bool.and_eq_true, decide_eq_true_eq]
theorem timer_iff {r : R} (hn : r.n ≠ 0) : timerV r = true ↔ ((1 ≤ r.n ∧ r.n ≤ 3) ∧ (0 ≤ r.mn ∧ r.mn ≤ r.mx) ∧ r.mx ≤ 65535 ∧ (r.mn * r.n ≤ r.total ∧ r.total ≤ r.mx * r.n) ∧ (0 ≤ r.dropped ∧ r.dropped ≤ 65535) ∧ (r.dropped = 0 ∨ r.n = 3)) := by
  unfold timerV
  rw [if_neg hn, decide_eq_true_eq]
theorem timer_zero {r : R} (hn : r.n = 0) : timerV r = true ↔ (r.mn = 0 ∧ r.mx = 0 ∧ r.total = 0 ∧ r.dropped = 0) := by
  unfold timerV
  rw [if_pos hn, decide_eq_true_eq]
theorem sampled_full {r : R} {v : Int} (h : rowOkV r = true ∧ r.kind = 3 ∧ (0 ≤ v ∧ v ≤ 65535)) (hn : r.n = 3) : rowOkV (sampledV r v) = true ∧ (sampledV r v).n = 3 ∧ (sampledV r v).dropped = min (r.dropped + 1) 65535 := by
  rw [sampled_3 h hn]
  have h' := (rowOk_timer h.2.1).1 h.1
  have ht := (timer_iff (by omega)).1 h'.2.2
  refine ⟨(rowOk_timer (by exact h.2.1)).2 ⟨h'.1, h'.2.1, (timer_iff (by simp only; omega)).2 ?_⟩, hn, ?_⟩
  · simp only
    refine ⟨ht.1, ht.2.1, ht.2.2.1, ht.2.2.2.1, ?_, .inr hn⟩
    split <;> omega
  · simp only; split <;> omega
theorem sampled_room {r : R} {v : Int} (h : rowOkV r = true ∧ r.kind = 3 ∧ (0 ≤ v ∧ v ≤ 65535)) (hn : r.n ≠ 3) :
    rowOkV (sampledV r v) = true ∧ ((sampledV r v).n = r.n + 1 ∧ (sampledV r v).dropped = 0 ∧ r.dropped = 0) ∧ (sampledV r v).mn ≤ v ∧ v ≤ (sampledV r v).mx ∧ (sampledV r v).total = r.total + v := by
  have h' := (rowOk_timer h.2.1).1 h.1
  obtain ⟨v0, v1⟩ := h.2.2
  by_cases h0 : r.n = 0
  · have ht := (timer_zero h0).1 h'.2.2
    rw [sampled_0 h h0]
    refine ⟨(rowOk_timer (by exact h.2.1)).2 ⟨h'.1, h'.2.1, (timer_iff (by simp)).2 ?_⟩, ⟨by simp only; omega, ht.2.2.2, ht.2.2.2⟩, by simp, by simp, rfl⟩
    simp only
    exact ⟨by omega, by omega, by omega, by omega, by omega, .inl ht.2.2.2⟩
  · have ht := (timer_iff h0).1 h'.2.2
    obtain ⟨⟨a1, a2⟩, ⟨b1, b2⟩, c1, ⟨d1, d2⟩, ⟨e1, e2⟩, f1⟩ := ht
    have hd : r.dropped = 0 := by omega
    rw [sampled_n h hn h0]
    refine ⟨(rowOk_timer (by exact h.2.1)).2 ⟨h'.1, h'.2.1, (timer_iff (by simp only; omega)).2 ?_⟩, ⟨rfl, hd, hd⟩, by simp only; split <;> omega, by simp only; split <;> omega, rfl⟩
    have hc : r.n = 1 ∨ r.n = 2 := by omega
    simp only
    rcases hc with hc | hc
    · rw [hc] at d1 d2 ⊢
      refine ⟨by omega, ?_, ?_, ?_, by omega, .inl hd⟩ <;> ((repeat' split) <;> omega)
    · rw [hc] at d1 d2 ⊢
      refine ⟨by omega, ?_, ?_, ?_, by omega, .inl hd⟩ <;> ((repeat' split) <;> omega)
theorem counted_ok {r : R} {v : Int} (h : countedV r v ≠ r) : rowOkV (countedV r v) = true ∧ (countedV r v).sum = (r.sum + v) % 281474976710656 ∧ 0 ≤ r.sum ∧ 0 ≤ v := by
  by_cases hc : rowOkV r = true ∧ r.kind = 1 ∧ (0 ≤ v ∧ v ≤ 65535)
  · have hf := count_facts hc.1 hc.2.1
    rw [counted_yes hc]
    refine ⟨?_, rfl, hf.1, hc.2.2.1⟩
    have h1 := hc.1
    unfold rowOkV at h1 ⊢
    simp only
    rw [if_pos hc.2.1, Bool.and_eq_true] at h1 ⊢
    refine ⟨h1.1, ?_⟩
    have h2 := h1.2
    unfold countV at h2 ⊢
    simp only [decide_eq_true_eq] at h2 ⊢
    exact ⟨by omega, h2.2⟩
  · exact absurd (counted_no hc) h
theorem quiet_zero (key : ByteArray) (kind : Int) : quietV ⟨key, kind, 0, false, 0, 0, 0, 0, 0, 0⟩ = true := rfl
end Go.Proofs.YtmglidfnolmcaaaGreatDoor
/-
  Two rows in blocks of a law's own, carried from world to world.
-/
namespace Go.Proofs.YtmglidfnolmcaaaGreatDoor
open Go.RowKit M
set_option linter.unusedVariables false
def F7 (w : World) (gr gx : Nat) (r x : R) (u : World) : Prop := Below w.heap.size w u ∧ RowAt u gr r ∧ RowAt u gx x
theorem F7.below {w u u' : World} {gr gx : Nat} {r x : R} (h : F7 w gr gx r x u) (hb : Below u.heap.size u u') : F7 w gr gx r x u' := ⟨h.1.trans (hb.mono h.1.size), h.2.1.below hb, h.2.2.below hb⟩
theorem F7.get {w u : World} {gr gx : Nat} {r x : R} (h : F7 w gr gx r x u) : RowAt u gr r ∧ RowAt u gx x := h.2
theorem F7.bel {w u : World} {gr gx : Nat} {r x : R} (h : F7 w gr gx r x u) : Below w.heap.size w u := h.1
theorem wp_f7_new {C : Go.Code} {Q : Exit → Act → World → Prop} {a : Act} {w u : World} {gr : Nat} {r : R} (x : R) (hb : Below w.heap.size w u) {B : Nat} (_ : w.heap.size ≤ B) (hr : RowAt u gr r)
    (k : ∀ u', F7 w gr u.heap.size r x u' → Go.Code.wp Tryz.prog C Q a u') : Go.Code.wp Tryz.prog C Q a (u.alloc (.cells (rowCells x) 33)) :=
  k _ ⟨hb.alloc hb.size _, hr.alloc _, rowAt_new u _ x rfl⟩
theorem CodeIn.below_of {w u : World} {K : Code} (h : CodeIn w K) (hb : Below w.heap.size w u) : CodeIn u K := h.below hb
theorem Small.sampled {r : R} (h : Small r) (v : Int) : Small (sampledV r v) := by
  by_cases hc : rowOkV r = true ∧ r.kind = 3 ∧ (0 ≤ v ∧ v ≤ 65535)
  · have tf := timer_facts hc.1 hc.2.1
    obtain ⟨h0, h1, h2, h3, h4, h5, h6, h7, h8⟩ := h
    unfold sampledV
    rw [if_pos hc]
    split
    · constructor <;> simp only <;> (first | assumption | (split <;> omega))
    · split
      · constructor <;> simp only <;> (first | assumption | omega)
      · constructor <;> simp only <;> (first | assumption | (split <;> omega) | omega)
  · rw [sampled_no hc]; exact h
theorem Small.counted {r : R} (h : Small r) (v : Int) : Small (countedV r v) := by
  unfold countedV
  split
  · obtain ⟨h0, h1, h2, h3, h4, h5, h6, h7, h8⟩ := h
    constructor <;> simp only <;> (first | assumption | omega)
  · exact h
theorem Fit.zero {key : ByteArray} {kind : Int} (h0 : key.size ≤ maxLen) (h1 : inW kind) : R.Fit ⟨key, kind, 0, false, 0, 0, 0, 0, 0, 0⟩ := by
  constructor <;> first | exact h0 | exact h1 | (unfold inW; simp only; omega)
set_option maxRecDepth 100000 in
set_option maxHeartbeats 4000000 in
theorem eq_row (w : World) (r s : R) : (binOp .eql 33 r.v s.v).run Tryz.prog w = .ok (.bool (decide (r = s))) w := by
  by_cases h : r = s
  · subst h
    rw [decide_eq_true rfl]
    obtain ⟨key, kind, sum, st, last, n', mn, mx, total, dropped⟩ := r
    unfold R.v
    simp only
    rw [run_eql_struct, run_equalIn_struct _ _ _ _ _ (by kernel_rfl) stood_row]
    simp [go_sem]
  · rw [decide_eq_false h]
    have := neq_row w r s h
    obtain ⟨key, kind, sum, st, last, n', mn, mx, total, dropped⟩ := r
    obtain ⟨key', kind', sum', st', last', n'', mn', mx', total', dropped'⟩ := s
    unfold R.v at *
    simp only at *
    rw [run_neq_struct] at this
    rw [run_eql_struct]
    generalize (Op.equalIn 10000 33 _ _).run Tryz.prog w = q at *
    cases q with
    | ok b w' =>
      simp only [Result.andThen_ok] at this ⊢
      injection this with e1 e2
      injection e1 with e1
      subst e2
      cases b
      · rfl
      · cases e1
    | halt a b => simp [Result.andThen] at this
end Go.Proofs.YtmglidfnolmcaaaGreatDoor
/-
  The package-level variables that the program's text lays (two tables of package unicode/utf8): one world that holds them.
-/
namespace Go.Proofs.YtmglidfnolmcaaaGreatDoor
open Go.ChangeShapes Go.WideShapes Go.ChangeAt Go.RowKit
theorem own : ownKnob Tryz.prog.godebug = none := by kernel_rfl
def accept : List Int := [128, 191, 160, 191, 128, 159, 144, 191, 128, 143, 0, 0, 0, 0, 0, 0, 0, 0, 0, 0, 0, 0, 0, 0, 0, 0, 0, 0, 0, 0, 0, 0]
def setTab (k : IntKind) (zs : List Int) : Obj → Obj
  | .cells _ t frozen => .cells (zs.map (Value.int k)).toArray t frozen
  | o => o
/-- The settled world with the two tables laid. -/
noncomputable def laidWorld (os : Os) : World :=
  let w0 := World.holding Tryz.prog os ⟨#[], #[], []⟩
  { w0 with heap := (w0.heap.modify 2 (setTab .u8 accept)).modify 1 (setTab .u8 (Go.Pinned.utf8FirstZ.map Int.ofNat)) }
end Go.Proofs.YtmglidfnolmcaaaGreatDoor
